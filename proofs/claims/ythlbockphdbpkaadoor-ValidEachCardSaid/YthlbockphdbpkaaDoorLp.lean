/- Places of names, their ends, and how these are found. No walk. -/
import Derived.Test.YthlbockphdbpkaaDoorLd
namespace Go.Proofs.YthlbockphdbpkaaDoor
open Go.RowKit
def Ld.all (Z : List ByteArray) (K : List Lk) : List ByteArray := Z ++ K.map Lk.nm ++ K.map Lk.tg
theorem all_len (Z : List ByteArray) (K : List Lk) : (Ld.all Z K).length = Z.length + K.length + K.length := by
  unfold Ld.all
  rw [List.length_append, List.length_append, List.length_map, List.length_map]
def Ld.enc (p : Nat × Int) : Int := if p.2 = 0 then p.1 else if p.2 = 3 then -2 else -3
noncomputable def Ld.code (Z : List ByteArray) (K : List Lk) (i : Nat) : Int :=
  if i < Z.length then (i : Int) else match K[i - Z.length]? with
    | some k => Ld.enc (Ld.zn Z K k.tg)
    | none => -2
def Ld.np (Z : List ByteArray) (K : List Lk) (i : Nat) : Nat :=
  if i < Z.length then i else match K[i - Z.length]? with
    | some k => Ld.ix k.tg (Ld.all Z K)
    | none => i
def Ld.pit (Z : List ByteArray) (K : List Lk) : Nat → Nat → Nat
  | 0, i => i
  | n + 1, i => Ld.np Z K (Ld.pit Z K n i)
/-- At a place stands the name of a link. -/
def Ld.isL (Z : List ByteArray) (K : List Lk) (i : Nat) : Prop := Z.length ≤ i ∧ i < Z.length + K.length
theorem pit_add (Z : List ByteArray) (K : List Lk) (x : Nat) (b : Nat) : ∀ a, Ld.pit Z K (a + b) x = Ld.pit Z K a (Ld.pit Z K b x)
  | 0 => by rw [Nat.zero_add]; rfl
  | a + 1 => by
    rw [show a + 1 + b = (a + b) + 1 by omega]
    show Ld.np Z K (Ld.pit Z K (a + b) x) = Ld.np Z K (Ld.pit Z K a (Ld.pit Z K b x))
    rw [pit_add Z K x b a]
theorem link_at {Z : List ByteArray} {K : List Lk} {i : Nat} (h : Ld.isL Z K i) : ∃ k, K[i - Z.length]? = some k := ⟨_, List.getElem?_eq_getElem (by have := h.1; have := h.2; omega)⟩
theorem np_link {Z : List ByteArray} {K : List Lk} {i : Nat} {k : Lk} (h : Ld.isL Z K i) (hk : K[i - Z.length]? = some k) : Ld.np Z K i = Ld.ix k.tg (Ld.all Z K) := by
  unfold Ld.np
  rw [if_neg (by have := h.1; omega), hk]
theorem np_other {Z : List ByteArray} {K : List Lk} {i : Nat} (h : ¬ Ld.isL Z K i) : Ld.np Z K i = i := by
  unfold Ld.np
  by_cases hz : i < Z.length
  · rw [if_pos hz]
  · rw [if_neg hz, List.getElem?_eq_none (by unfold Ld.isL at h; omega)]
theorem code_zone {Z : List ByteArray} {K : List Lk} {i : Nat} (h : i < Z.length) : Ld.code Z K i = i := by
  unfold Ld.code
  rw [if_pos h]
theorem code_link {Z : List ByteArray} {K : List Lk} {i : Nat} {k : Lk} (h : Ld.isL Z K i) (hk : K[i - Z.length]? = some k) : Ld.code Z K i = Ld.enc (Ld.zn Z K k.tg) := by
  unfold Ld.code
  rw [if_neg (by have := h.1; omega), hk]
theorem code_rest {Z : List ByteArray} {K : List Lk} {i : Nat} (h : Z.length + K.length ≤ i) : Ld.code Z K i = -2 := by
  unfold Ld.code
  rw [if_neg (by omega), List.getElem?_eq_none (by omega)]
theorem enc_ne (p : Nat × Int) : Ld.enc p ≠ -1 := by
  unfold Ld.enc
  by_cases h : p.2 = 0
  · rw [if_pos h]; omega
  · rw [if_neg h]
    by_cases h' : p.2 = 3
    · rw [if_pos h']; decide
    · rw [if_neg h']; decide
theorem code_ne (Z : List ByteArray) (K : List Lk) (i : Nat) : Ld.code Z K i ≠ -1 := by
  by_cases h : i < Z.length
  · rw [code_zone h]; omega
  · by_cases h' : i < Z.length + K.length
    · have hl : Ld.isL Z K i := ⟨by omega, h'⟩
      obtain ⟨k, hk⟩ := link_at hl
      rw [code_link hl hk]
      exact enc_ne _
    · rw [code_rest (by omega)]; decide
theorem look_at (x : ByteArray) : ∀ {K : List Lk}, x ∈ K.map Lk.nm → ∃ k, K[Ld.ix x (K.map Lk.nm)]? = some k ∧ k.nm = x ∧ Ld.look x K = some k.tg
  | k :: l, h => by
    rw [List.map_cons]
    unfold Ld.ix Ld.look
    by_cases e : k.nm = x
    · rw [if_pos e, if_pos e]
      exact ⟨k, rfl, e, rfl⟩
    · rw [if_neg e, if_neg e]
      obtain ⟨k', h1, h2, h3⟩ := look_at x (K := l) (by rw [List.map_cons] at h; exact (List.mem_cons.1 h).resolve_left (fun h' => e h'.symm))
      exact ⟨k', by rw [List.getElem?_cons_succ]; exact h1, h2, h3⟩
theorem look_none (x : ByteArray) : ∀ {K : List Lk}, x ∉ K.map Lk.nm → Ld.look x K = none
  | [], _ => rfl
  | k :: l, h => by
    unfold Ld.look
    rw [List.map_cons] at h
    rw [if_neg (fun e => h (List.mem_cons.2 (.inl e.symm))), look_none x (fun h' => h (List.mem_cons.2 (.inr h')))]
theorem tg_all {Z : List ByteArray} {K : List Lk} {i : Nat} {k : Lk} (h : K[i]? = some k) : k.tg ∈ Ld.all Z K :=
  List.mem_append.2 (.inr (List.mem_map_of_mem (List.mem_of_getElem? h)))
/-- A name's first place: a zone's, a link's, or none. -/
theorem first_zone {Z : List ByteArray} {K : List Lk} {x : ByteArray} (h : x ∈ Z) : Ld.ix x (Ld.all Z K) = Ld.ix x Z ∧ Ld.ix x (Ld.all Z K) < Z.length ∧ Ld.nx Z K x = none := by
  have e : Ld.ix x (Ld.all Z K) = Ld.ix x Z := by
    unfold Ld.all
    rw [ix_append_in (List.mem_append.2 (.inl h)), ix_append_in h]
  refine ⟨e, by rw [e]; exact ix_lt h, ?_⟩
  unfold Ld.nx
  rw [if_pos (inb_iff.2 h)]
theorem first_link {Z : List ByteArray} {K : List Lk} {x : ByteArray} (h : x ∉ Z) (h' : x ∈ K.map Lk.nm) : ∃ k, Ld.isL Z K (Ld.ix x (Ld.all Z K)) ∧ K[Ld.ix x (Ld.all Z K) - Z.length]? = some k ∧ Ld.nx Z K x = some k.tg ∧ k.nm = x := by
  have e : Ld.ix x (Ld.all Z K) = Z.length + Ld.ix x (K.map Lk.nm) := by
    unfold Ld.all
    rw [ix_append_in (List.mem_append.2 (.inr h')), ix_append_out h]
  obtain ⟨k, h1, h2, h3⟩ := look_at x h'
  have hl := ix_lt h'
  rw [List.length_map] at hl
  refine ⟨k, ⟨by omega, by omega⟩, ?_, ?_, h2⟩
  · rw [e, Nat.add_sub_cancel_left]; exact h1
  · unfold Ld.nx
    rw [if_neg (by rw [inb_iff]; exact h), h3]
theorem first_rest {Z : List ByteArray} {K : List Lk} {x : ByteArray} (h : x ∉ Z) (h' : x ∉ K.map Lk.nm) : Z.length + K.length ≤ Ld.ix x (Ld.all Z K) ∧ Ld.nx Z K x = none := by
  have e : Ld.ix x (Ld.all Z K) = (Z ++ K.map Lk.nm).length + Ld.ix x (K.map Lk.tg) := by
    unfold Ld.all
    rw [ix_append_out (fun hm => (List.mem_append.1 hm).elim h h')]
  rw [List.length_append, List.length_map] at e
  refine ⟨by omega, ?_⟩
  unfold Ld.nx
  rw [if_neg (by rw [inb_iff]; exact h), look_none x h']
theorem nx_link {Z : List ByteArray} {K : List Lk} {x y : ByteArray} (h : Ld.nx Z K x = some y) : x ∉ Z ∧ x ∈ K.map Lk.nm ∧ y ∈ K.map Lk.tg := by
  by_cases hz : x ∈ Z
  · rw [(first_zone (K := K) hz).2.2] at h; cases h
  · by_cases hl : x ∈ K.map Lk.nm
    · obtain ⟨k, _, h2, h3, _⟩ := first_link hz hl
      rw [h3] at h
      injection h with h
      exact ⟨hz, hl, h ▸ List.mem_map_of_mem (List.mem_of_getElem? h2)⟩
    · rw [(first_rest hz hl).2] at h; cases h
theorem isL_iff {Z : List ByteArray} {K : List Lk} (x : ByteArray) : Ld.isL Z K (Ld.ix x (Ld.all Z K)) ↔ Ld.nx Z K x ≠ none := by
  by_cases hz : x ∈ Z
  · obtain ⟨_, h1, h2⟩ := first_zone (K := K) hz
    exact ⟨fun h => by have := h.1; omega, fun h => absurd h2 h⟩
  · by_cases hl : x ∈ K.map Lk.nm
    · obtain ⟨k, h1, _, h3, _⟩ := first_link hz hl
      exact ⟨fun _ => (by rw [h3]; exact fun h => nomatch h), fun _ => h1⟩
    · obtain ⟨h1, h2⟩ := first_rest hz hl
      exact ⟨fun h => by have := h.2; omega, fun h => absurd h2 h⟩
theorem st_all {Z : List ByteArray} {K : List Lk} {x : ByteArray} (h : x ∈ Ld.all Z K) : Ld.st Z K x ∈ Ld.all Z K := by
  cases e : Ld.nx Z K x with
  | none => rw [st_none e]; exact h
  | some y => rw [st_some e]; exact List.mem_append.2 (.inr (nx_link e).2.2)
theorem np_first {Z : List ByteArray} {K : List Lk} (x : ByteArray) : Ld.np Z K (Ld.ix x (Ld.all Z K)) = Ld.ix (Ld.st Z K x) (Ld.all Z K) := by
  by_cases hz : x ∈ Z
  · obtain ⟨_, h1, h2⟩ := first_zone (K := K) hz
    rw [st_none h2, np_other (fun h => by have := h.1; omega)]
  · by_cases hl : x ∈ K.map Lk.nm
    · obtain ⟨k, h1, h2, h3, _⟩ := first_link hz hl
      rw [st_some h3, np_link h1 h2]
    · obtain ⟨h1, h2⟩ := first_rest hz hl
      rw [st_none h2, np_other (fun h => by have := h.2; omega)]
theorem pit_first (Z : List ByteArray) (K : List Lk) (x : ByteArray) : ∀ n, Ld.pit Z K n (Ld.ix x (Ld.all Z K)) = Ld.ix (Ld.it Z K n x) (Ld.all Z K)
  | 0 => rfl
  | n + 1 => by
    show Ld.np Z K (Ld.pit Z K n _) = _
    rw [pit_first Z K x n, np_first]
    rfl
theorem code_first {Z : List ByteArray} {K : List Lk} (x : ByteArray) : Ld.code Z K (Ld.ix x (Ld.all Z K)) = Ld.enc (Ld.zn Z K x) := by
  by_cases hz : x ∈ Z
  · obtain ⟨h0, h1, h2⟩ := first_zone (K := K) hz
    rw [code_zone h1, zn_end (n := 0) (y := x) rfl h2, if_pos (inb_iff.2 hz), h0]
    rfl
  · by_cases hl : x ∈ K.map Lk.nm
    · obtain ⟨k, h1, h2, h3, _⟩ := first_link hz hl
      rw [code_link h1 h2, ← st_some h3, zn_step]
    · obtain ⟨h1, h2⟩ := first_rest hz hl
      rw [code_rest h1, zn_end (n := 0) (y := x) rfl h2, if_neg (by rw [inb_iff]; exact hz)]
      rfl
theorem code_np {Z : List ByteArray} {K : List Lk} (i : Nat) : Ld.code Z K (Ld.np Z K i) = Ld.code Z K i := by
  by_cases h : Ld.isL Z K i
  · obtain ⟨k, hk⟩ := link_at h
    rw [np_link h hk, code_first, code_link h hk]
  · rw [np_other h]
theorem code_pit {Z : List ByteArray} {K : List Lk} (i : Nat) : ∀ n, Ld.code Z K (Ld.pit Z K n i) = Ld.code Z K i
  | 0 => rfl
  | n + 1 => (code_np _).trans (code_pit i n)
theorem pit_again {Z : List ByteArray} {K : List Lk} {i k : Nat} (h : Ld.pit Z K (k + 1) i = i) : ∀ n, Ld.pit Z K ((k + 1) * n) i = i
  | 0 => rfl
  | n + 1 => by
    rw [Nat.mul_succ, Nat.add_comm, pit_add, pit_again h n, h]
theorem pit_stuck {Z : List ByteArray} {K : List Lk} {i : Nat} (h : ¬ Ld.isL Z K i) : ∀ n, Ld.pit Z K n i = i
  | 0 => rfl
  | n + 1 => by
    show Ld.np Z K (Ld.pit Z K n i) = i
    rw [pit_stuck h n, np_other h]
theorem code_again {Z : List ByteArray} {K : List Lk} {i k : Nat} (h : Ld.pit Z K (k + 1) i = i) (hl : Ld.isL Z K i) : Ld.code Z K i = -3 := by
  obtain ⟨q, hq⟩ := link_at hl
  rw [code_link hl hq, zn_round (fun n hn => ?_)]
  · rfl
  · have h1 : Ld.pit Z K (n + 1) i = Ld.ix (Ld.it Z K n q.tg) (Ld.all Z K) := by
      rw [pit_add, show Ld.pit Z K 1 i = Ld.ix q.tg (Ld.all Z K) from np_link hl hq, pit_first]
    have h2 : ¬ Ld.isL Z K (Ld.ix (Ld.it Z K n q.tg) (Ld.all Z K)) := fun hh => (isL_iff _).1 hh hn
    have h3 := pit_again h (n + 1)
    rw [Nat.succ_mul, pit_add, h1, pit_stuck h2] at h3
    exact h2 (h3.symm ▸ hl)
theorem np_lt {Z : List ByteArray} {K : List Lk} {i : Nat} (h : i < (Ld.all Z K).length) : Ld.np Z K i < (Ld.all Z K).length := by
  by_cases hl : Ld.isL Z K i
  · obtain ⟨k, hk⟩ := link_at hl
    rw [np_link hl hk]
    exact ix_lt (tg_all hk)
  · rw [np_other hl]; exact h
theorem pit_lt {Z : List ByteArray} {K : List Lk} {i : Nat} (h : i < (Ld.all Z K).length) : ∀ n, Ld.pit Z K n i < (Ld.all Z K).length
  | 0 => h
  | n + 1 => np_lt (pit_lt h n)
/-- Places are marked. -/
def Ld.mark (e : List Int) (v : Int) (ps : List Nat) : List Int := ps.foldl (fun e p => e.set p v) e
theorem mark_nil (e : List Int) (v : Int) : Ld.mark e v [] = e := rfl
theorem mark_snoc (e : List Int) (v : Int) (ps : List Nat) (p : Nat) : Ld.mark e v (ps ++ [p]) = (Ld.mark e v ps).set p v := by
  unfold Ld.mark
  rw [List.foldl_append]
  rfl
theorem mark_len (v : Int) : ∀ (ps : List Nat) (e : List Int), (Ld.mark e v ps).length = e.length
  | [], _ => rfl
  | p :: l, e => by
    show (Ld.mark (e.set p v) v l).length = _
    rw [mark_len v l, List.length_set]
theorem mark_in (v : Int) : ∀ (ps : List Nat) (e : List Int) (q : Nat), q ∈ ps → q < e.length → (Ld.mark e v ps)[q]? = some v
  | p :: l, e, q, h, hq => by
    show (Ld.mark (e.set p v) v l)[q]? = _
    by_cases hl : q ∈ l
    · exact mark_in v l _ q hl (by rw [List.length_set]; exact hq)
    · obtain rfl : q = p := (List.mem_cons.1 h).resolve_right hl
      rw [mark_out v l _ q hl, List.getElem?_set_self (by exact hq)]
where mark_out (v : Int) : ∀ (ps : List Nat) (e : List Int) (q : Nat), q ∉ ps → (Ld.mark e v ps)[q]? = e[q]?
  | [], _, _, _ => rfl
  | p :: l, e, q, h => by
    show (Ld.mark (e.set p v) v l)[q]? = _
    rw [mark_out v l _ q (fun hh => h (List.mem_cons.2 (.inr hh))), List.getElem?_set_ne (fun hh => h (List.mem_cons.2 (.inl hh.symm)))]
theorem mark_out (v : Int) (ps : List Nat) (e : List Int) (q : Nat) (h : q ∉ ps) : (Ld.mark e v ps)[q]? = e[q]? := mark_in.mark_out v ps e q h
/-- Each place has its end, or is a link's whose end is not known yet. -/
structure Ld.Inv (Z : List ByteArray) (K : List Lk) (e : List Int) : Prop where
  len : e.length = (Ld.all Z K).length
  at_ : ∀ p c, e[p]? = some c → c = Ld.code Z K p ∨ (c = -1 ∧ Ld.isL Z K p)
/-- The first places by which one comes from i0. -/
def Ld.way (Z : List ByteArray) (K : List Lk) (i0 k : Nat) : List Nat := (List.range k).map fun j => Ld.pit Z K j i0
theorem way_succ (Z : List ByteArray) (K : List Lk) (i0 k : Nat) : Ld.way Z K i0 (k + 1) = Ld.way Z K i0 k ++ [Ld.pit Z K k i0] := by
  unfold Ld.way
  rw [List.range_succ, List.map_append]
  rfl
theorem way_len (Z : List ByteArray) (K : List Lk) (i0 k : Nat) : (Ld.way Z K i0 k).length = k := by
  unfold Ld.way
  rw [List.length_map, List.length_range]
theorem way_mem {Z : List ByteArray} {K : List Lk} {i0 k q : Nat} : q ∈ Ld.way Z K i0 k ↔ ∃ j, j < k ∧ Ld.pit Z K j i0 = q := by
  unfold Ld.way
  rw [List.mem_map]
  constructor
  · rintro ⟨j, hj, e⟩; exact ⟨j, List.mem_range.1 hj, e⟩
  · rintro ⟨j, hj, e⟩; exact ⟨j, List.mem_range.2 hj, e⟩
theorem way_at {Z : List ByteArray} {K : List Lk} {i0 k j : Nat} (h : j < k) : (Ld.way Z K i0 k)[j]? = some (Ld.pit Z K j i0) := by
  unfold Ld.way
  rw [List.getElem?_map, List.getElem?_range h]
  rfl
/-- How far a settling has come: the first k places were unknown, and are marked. -/
structure Ld.Far (Z : List ByteArray) (K : List Lk) (e : List Int) (i0 k : Nat) (e' : List Int) : Prop where
  eq_ : e' = Ld.mark e (-3) (Ld.way Z K i0 k)
  unk : ∀ j, j < k → e[Ld.pit Z K j i0]? = some (-1)
theorem far_start (Z : List ByteArray) (K : List Lk) (e : List Int) (i0 : Nat) : Ld.Far Z K e i0 0 e := ⟨rfl, fun _ h => absurd h (Nat.not_lt_zero _)⟩
theorem far_len {Z : List ByteArray} {K : List Lk} {e e' : List Int} {i0 k : Nat} (h : Ld.Far Z K e i0 k e') : e'.length = e.length := by rw [h.eq_, mark_len]
theorem far_step {Z : List ByteArray} {K : List Lk} {e e' : List Int} {i0 k : Nat} (hI : Ld.Inv Z K e) (h : Ld.Far Z K e i0 k e') (hu : e'[Ld.pit Z K k i0]? = some (-1)) :
    Ld.isL Z K (Ld.pit Z K k i0) ∧ Ld.Far Z K e i0 (k + 1) (e'.set (Ld.pit Z K k i0) (-3)) ∧ (e'.set (Ld.pit Z K k i0) (-3)).count (-1) < e'.count (-1) := by
  obtain ⟨hlt, hval⟩ := List.getElem?_eq_some_iff.1 hu
  have hout : Ld.pit Z K k i0 ∉ Ld.way Z K i0 k := fun hin => by
    have := mark_in (-3) _ e _ hin (by rw [far_len h] at hlt; exact hlt)
    rw [← h.eq_, hu] at this
    exact absurd this (by decide)
  have he : e[Ld.pit Z K k i0]? = some (-1) := by
    rw [h.eq_, mark_out _ _ _ _ hout] at hu
    exact hu
  refine ⟨?_, ⟨?_, ?_⟩, ?_⟩
  · rcases hI.at_ _ _ he with hc | ⟨_, hl⟩
    · exact absurd hc.symm (code_ne Z K _)
    · exact hl
  · rw [way_succ, mark_snoc, ← h.eq_]
  · intro j hj
    by_cases hjk : j < k
    · exact h.unk j hjk
    · obtain rfl : j = k := by omega
      exact he
  · rw [List.count_set hlt, hval]
    have hp : 0 < e'.count (-1) := List.count_pos_iff.2 (List.mem_of_getElem? hu)
    simp
    omega
theorem far_end {Z : List ByteArray} {K : List Lk} {e e' : List Int} {i0 k : Nat} {c : Int} (hI : Ld.Inv Z K e) (h0 : i0 < e.length) (h : Ld.Far Z K e i0 k e') (hc : e'[Ld.pit Z K k i0]? = some c) (hn : c ≠ -1) :
    c = Ld.code Z K i0 ∧ Ld.Inv Z K (Ld.mark e' c (Ld.way Z K i0 k)) ∧ (Ld.mark e' c (Ld.way Z K i0 k))[i0]? = some (Ld.code Z K i0) ∧ ∀ p, e[p]? = some (Ld.code Z K p) → (Ld.mark e' c (Ld.way Z K i0 k))[p]? = some (Ld.code Z K p) := by
  have hL : ∀ j, j < k → Ld.isL Z K (Ld.pit Z K j i0) := fun j hj => by
    rcases hI.at_ _ _ (h.unk j hj) with hh | ⟨_, hl⟩
    · exact absurd hh.symm (code_ne Z K _)
    · exact hl
  have hlt := (List.getElem?_eq_some_iff.1 hc).1
  have hce : c = Ld.code Z K i0 := by
    rw [← code_pit i0 k]
    by_cases hin : Ld.pit Z K k i0 ∈ Ld.way Z K i0 k
    · have h3 := mark_in (-3) _ e _ hin (by rw [far_len h] at hlt; exact hlt)
      rw [← h.eq_, hc] at h3
      injection h3 with h3
      obtain ⟨j, hj, ej⟩ := way_mem.1 hin
      have hl := hL j hj
      rw [ej] at hl
      rw [h3, code_again (k := k - j - 1) (i := Ld.pit Z K k i0) ?_ hl]
      conv => lhs; rw [← ej]
      rw [← pit_add, show k - j - 1 + 1 + j = k by omega]
    · rw [h.eq_, mark_out _ _ _ _ hin] at hc
      rcases hI.at_ _ _ hc with hh | ⟨hh, _⟩
      · exact hh
      · exact absurd hh hn
  have hin : ∀ q, q ∈ Ld.way Z K i0 k → q < e'.length → (Ld.mark e' c (Ld.way Z K i0 k))[q]? = some (Ld.code Z K q) := fun q hq hl => by
    rw [mark_in c _ e' q hq hl]
    obtain ⟨j, _, ej⟩ := way_mem.1 hq
    rw [← ej, code_pit, hce]
  have hout : ∀ q, q ∉ Ld.way Z K i0 k → (Ld.mark e' c (Ld.way Z K i0 k))[q]? = e[q]? := fun q hq => by
    rw [mark_out _ _ _ _ hq, h.eq_, mark_out _ _ _ _ hq]
  have hkeep : ∀ p, e[p]? = some (Ld.code Z K p) → (Ld.mark e' c (Ld.way Z K i0 k))[p]? = some (Ld.code Z K p) := fun p hp => by
    by_cases hq : p ∈ Ld.way Z K i0 k
    · exact hin p hq (by rw [far_len h]; exact (List.getElem?_eq_some_iff.1 hp).1)
    · rw [hout p hq]; exact hp
  refine ⟨hce, ⟨by rw [mark_len, far_len h]; exact hI.len, fun p v hv => ?_⟩, ?_, hkeep⟩
  · by_cases hq : p ∈ Ld.way Z K i0 k
    · have := (List.getElem?_eq_some_iff.1 hv).1
      rw [mark_len] at this
      rw [hin p hq this] at hv
      injection hv with hv
      exact .inl hv.symm
    · rw [hout p hq] at hv
      exact hI.at_ p v hv
  · cases k with
    | zero =>
      have : (Ld.mark e' c (Ld.way Z K i0 0)) = e' := rfl
      rw [this]
      have hp : Ld.pit Z K 0 i0 = i0 := rfl
      rw [hp] at hc
      rw [hc, hce]
    | succ k => exact hin i0 (way_mem.2 ⟨0, by omega, rfl⟩) (by rw [far_len h]; exact h0)
/-- The ends before any place is settled. -/
def Ld.e0 (z m n : Nat) : List Int := (List.range n).map fun (i : Nat) => if i < z then (i : Int) else if i < z + m then -1 else -2
theorem e0_len (z m n : Nat) : (Ld.e0 z m n).length = n := by
  unfold Ld.e0
  rw [List.length_map, List.length_range]
theorem e0_succ (z m n : Nat) : Ld.e0 z m (n + 1) = Ld.e0 z m n ++ [if n < z then (n : Int) else if n < z + m then -1 else -2] := by
  unfold Ld.e0
  rw [List.range_succ, List.map_append]
  rfl
theorem e0_inv (Z : List ByteArray) (K : List Lk) : Ld.Inv Z K (Ld.e0 Z.length K.length (Ld.all Z K).length) := by
  refine ⟨e0_len _ _ _, fun p c h => ?_⟩
  unfold Ld.e0 at h
  rw [List.getElem?_map] at h
  by_cases hp : p < (Ld.all Z K).length
  · rw [List.getElem?_range hp] at h
    injection h with h
    dsimp only at h
    by_cases h1 : p < Z.length
    · rw [if_pos h1] at h
      exact .inl (by rw [code_zone h1]; exact h.symm)
    · rw [if_neg h1] at h
      by_cases h2 : p < Z.length + K.length
      · rw [if_pos h2] at h
        exact .inr ⟨h.symm, by omega, h2⟩
      · rw [if_neg h2] at h
        exact .inl (by rw [code_rest (by omega)]; exact h.symm)
  · rw [List.getElem?_eq_none (by rw [List.length_range]; omega)] at h
    cases h
end Go.Proofs.YthlbockphdbpkaaDoor
