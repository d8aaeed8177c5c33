/- An argument that is a source, opened: its rows of cells. -/
import Derived.Test.YthlbockphdbpkaaDoorSd0
import Derived.OpenShut
namespace Go.Proofs.YthlbockphdbpkaaDoor
open Go.RowKit Go.ChangeShapes Go.WideShapes Go.Joins Go.Deep
set_option maxRecDepth 100000
theorem addr_off (b o j : Nat) : (⟨b, o, none⟩ : Addr).add j = ⟨b, o + j, none⟩ := by
  unfold Addr.add
  split
  · rename_i h; subst h; rfl
  · rfl
theorem add_two (a : Addr) (i j : Nat) : (a.add i).add j = a.add (i + j) := by
  unfold Addr.add
  by_cases hi : i = 0 <;> by_cases hj : j = 0 <;> simp [hi, hj, Nat.add_assoc]
theorem spot_none {w : World} {a : Addr} {v : Value} (h : w.cell? a = some v) : a.spot = none := by
  unfold World.cell? at h
  cases hsp : a.spot with
  | none => rfl
  | some x =>
    rw [hsp] at h
    split at h <;> simp at h
section
variable {H : Type} {enc : TypeId × Value → H} {P : Program} {w : World} {base : Nat} {spare : Nat → Bool} {held : Bool}
/-- A slice whose elements are told by k cells each. -/
theorem open_rows {α : Type} (enc' : α → List Value) (k : Nat) (good : α → Prop) {t e : TypeId} (ht : P.underlying t = some (.slice e)) (hC : P.cellsOf e = k) (hk0 : 0 < k) (hlen : ∀ x, (enc' x).length = k)
    (each : ∀ (n : Nat) (cs : List Value) (y : DataW H × List MemPlace), cs.length = k → DataW.trod enc P w base spare held n e cs = some y → ∃ x : α, cs = enc' x ∧ good x)
    {fuel : Nat} {cs : List Value} {x : DataW H × List MemPlace} (h : DataW.trod enc P w base spare held fuel t cs = some x) :
    ∃ (A : Option Addr) (c : Nat) (l : List α), cs = [.slice A l.length c] ∧ l.length ≤ maxLen ∧ Rk w w.heap.size A (l.flatMap enc') ∧ (A = none → c = 0) ∧ ∀ x ∈ l, good x := by
  rcases open_slice ht h with ⟨rfl, _⟩ | ⟨a, len, cap, m, n, D, Pl, rfl, _, hl, hm, hmm, _, hi⟩
  · exact ⟨none, 0, [], rfl, Nat.zero_le _, Rk.nil, fun _ => rfl, fun x hx => by cases hx⟩
  · have hle : len ≤ m := by rw [hmm]; split <;> omega
    have ech : ∀ i : Fin len, ∃ x : α, good x ∧ ∀ j, j < k → w.cell? (a.add (i.val * k + j)) = (enc' x)[j]? := fun i => by
      obtain ⟨cs', hc, ht'⟩ := hi i.val (by omega)
      rw [hC] at hc
      obtain ⟨_, hcl, hat⟩ := World.cells?_some hc
      obtain ⟨x, rfl, hg⟩ := each n cs' _ hcl ht'
      exact ⟨x, hg, fun j hj => by rw [← add_two]; exact hat j hj⟩
    obtain ⟨f, hf⟩ := Classical.axiomOfChoice ech
    refine ⟨some a, cap, List.ofFn f, by rw [List.length_ofFn], by rw [List.length_ofFn]; omega, fun hn => ?_, fun e => (by cases e), fun x hx => ?_⟩
    · rw [flat_len hlen, List.length_ofFn] at hn
      have h0 : 0 < len := by
        rcases Nat.eq_zero_or_pos len with h | h
        · rw [h] at hn; omega
        · exact h
      have hc0 := (hf ⟨0, h0⟩).2 0 hk0
      have hs0 : (enc' (f ⟨0, h0⟩))[0]? = some ((enc' (f ⟨0, h0⟩))[0]'(by rw [hlen]; exact hk0)) := List.getElem?_eq_getElem _
      rw [hs0] at hc0
      have hc0 : w.cell? a = some ((enc' (f ⟨0, h0⟩))[0]'(by rw [hlen]; exact hk0)) := by simpa [Addr.add] using hc0
      obtain ⟨b, o, sp⟩ := a
      have hsp : sp = none := spot_none hc0
      subst hsp
      have hlt := lt_cell hc0
      refine ⟨b, o, rfl, hlt, fun j u hu => ?_⟩
      have hj : j < len * k := by
        rcases Nat.lt_or_ge j (len * k) with h | h
        · exact h
        · rw [List.getElem?_eq_none (by rw [flat_len hlen, List.length_ofFn]; exact h)] at hu; cases hu
      have hq : j / k < len := Nat.div_lt_of_lt_mul (by rw [Nat.mul_comm]; exact hj)
      have hr : j % k < k := Nat.mod_lt _ hk0
      have hx : (List.ofFn f)[j / k]? = some (f ⟨j / k, hq⟩) := by simp [hq]
      have hv : (enc' (f ⟨j / k, hq⟩))[j % k]? = some ((enc' (f ⟨j / k, hq⟩))[j % k]'(by rw [hlen]; exact hr)) := List.getElem?_eq_getElem _
      have hfl := flat_at hlen (List.ofFn f) (j / k) _ hx (j % k) _ hv
      have hdm : j / k * k + j % k = j := by rw [Nat.mul_comm]; exact Nat.div_add_mod j k
      rw [hdm, hu] at hfl
      have hcell := (hf ⟨j / k, hq⟩).2 (j % k) hr
      simp only at hcell
      rw [hdm, addr_off] at hcell
      rw [hcell, hv, hfl]
    · obtain ⟨i, rfl⟩ := List.mem_ofFn.1 hx
      exact (hf i).1
end
/-- A rule's cells, in an argument. -/
theorem cells_rule {H : Type} {enc : TypeId × Value → H} {w : World} {base : Nat} {spare : Nat → Bool} {held : Bool} {fuel : Nat} {cs : List Value} {x : DataW H × List MemPlace} (hl : cs.length = 11)
    (hf : DataW.trod enc Tryd.prog w base spare held fuel 34 cs = some x) : ∃ r : Ru, cs = rcell r ∧ (Lit.int .u8 r.c).wf = true ∧ r.nm.size ≤ maxLen ∧ r.lt.size ≤ maxLen := by
  obtain ⟨c0, c1, c2, c3, c4, c5, c6, c7, c8, c9, c10, hcs⟩ := array11 (cs := cs.toArray) (by simpa using hl)
  obtain rfl : cs = [c0, c1, c2, c3, c4, c5, c6, c7, c8, c9, c10] := by simpa using congrArg Array.toList hcs
  clear hcs hl
  obtain ⟨y0, y1, y2, y3, y4, y5, y6, y7, n, h0, h1, h2, h3, h4, h5, h6, h7⟩ := trod_struct8 Tryd.underlying34 hf
  simp only [cells_str, cells_int, cells_i64, cells_day, cells_moment] at h0 h1 h2 h3 h4 h5 h6 h7
  obtain ⟨z0, z1, z2, n2, _, _, g0, g1, g2⟩ := trod_struct3 Tryd.underlying29 h4
  obtain ⟨x0, x1, n3, _, _, f0, f1⟩ := trod_struct2 Tryd.underlying32 h5
  simp only [cells_int, cells_kind] at g0 g1 g2
  simp only [cells_i64, cells_clock] at f0 f1
  obtain ⟨a0, e0, _, s0⟩ := DataW.trod_string Tryd.underlying9 h0
  obtain ⟨a1, e1, _, _⟩ := DataW.trod_int Tryd.underlying3 h1
  obtain ⟨a2, e2, _, _⟩ := DataW.trod_int Tryd.underlying3 h2
  obtain ⟨a3, e3, _, _⟩ := DataW.trod_int Tryd.underlying3 h3
  obtain ⟨a4, e4, _, _⟩ := DataW.trod_int Tryd.underlying27 g0
  obtain ⟨a5, e5, _, _⟩ := DataW.trod_int Tryd.underlying3 g1
  obtain ⟨a6, e6, _, _⟩ := DataW.trod_int Tryd.underlying3 g2
  obtain ⟨a7, e7, _, _⟩ := DataW.trod_int Tryd.underlying2 f0
  obtain ⟨a8, e8, _, hw⟩ := DataW.trod_int Tryd.underlying30 f1
  obtain ⟨a9, e9, _, _⟩ := DataW.trod_int Tryd.underlying2 h6
  obtain ⟨a10, e10, _, s10⟩ := DataW.trod_string Tryd.underlying9 h7
  simp at e0 e1 e2 e3 e4 e5 e6 e7 e8 e9 e10
  subst e0 e1 e2 e3 e4 e5 e6 e7 e8 e9 e10
  exact ⟨⟨_, _, _, _, _, _, _, _, _, _, _⟩, rfl, hw, s0, s10⟩
/-- An era's cells. -/
theorem cells_era {H : Type} {enc : TypeId × Value → H} {w : World} {base : Nat} {spare : Nat → Bool} {held : Bool} {fuel : Nat} {cs : List Value} {x : DataW H × List MemPlace} (hl : cs.length = 13)
    (hf : DataW.trod enc Tryd.prog w base spare held fuel 50 cs = some x) : ∃ e : Er, cs = ecell e ∧ (Lit.int .u8 e.u.c).wf = true ∧ e.ru.size ≤ maxLen ∧ e.fm.size ≤ maxLen := by
  obtain ⟨c0, c1, c2, c3, c4, c5, c6, c7, c8, c9, c10, c11, c12, hcs⟩ := array13 (cs := cs.toArray) (by simpa using hl)
  obtain rfl : cs = [c0, c1, c2, c3, c4, c5, c6, c7, c8, c9, c10, c11, c12] := by simpa using congrArg Array.toList hcs
  clear hcs hl
  obtain ⟨y0, y1, y2, y3, y4, y5, y6, n, h0, h1, h2, h3, h4, h5, h6⟩ := trod_struct7 Tryd.underlying50 hf
  simp only [cells_str, cells_bool, cells_ekind, cells_i64, cells_until] at h0 h1 h2 h3 h4 h5 h6
  obtain ⟨u0, u1, u2, u3, n1, _, _, k0, k1, k2, k3⟩ := trod_struct4 Tryd.underlying48 h6
  simp only [cells_int, cells_day, cells_moment] at k0 k1 k2 k3
  obtain ⟨z0, z1, z2, n2, _, _, g0, g1, g2⟩ := trod_struct3 Tryd.underlying29 k2
  obtain ⟨x0, x1, n3, _, _, f0, f1⟩ := trod_struct2 Tryd.underlying32 k3
  simp only [cells_int, cells_kind] at g0 g1 g2
  simp only [cells_i64, cells_clock] at f0 f1
  obtain ⟨a0, e0, _, _⟩ := DataW.trod_int Tryd.underlying2 h0
  obtain ⟨a1, e1, _, hk⟩ := DataW.trod_int Tryd.underlying46 h1
  obtain ⟨a2, e2, _, _⟩ := DataW.trod_int Tryd.underlying2 h2
  obtain ⟨a3, e3, _, s3⟩ := DataW.trod_string Tryd.underlying9 h3
  obtain ⟨a4, e4, _, s4⟩ := DataW.trod_string Tryd.underlying9 h4
  obtain ⟨a5, e5, _⟩ := DataW.trod_bool Tryd.underlying4 h5
  obtain ⟨a6, e6, _, _⟩ := DataW.trod_int Tryd.underlying3 k0
  obtain ⟨a7, e7, _, _⟩ := DataW.trod_int Tryd.underlying3 k1
  obtain ⟨a8, e8, _, _⟩ := DataW.trod_int Tryd.underlying27 g0
  obtain ⟨a9, e9, _, _⟩ := DataW.trod_int Tryd.underlying3 g1
  obtain ⟨a10, e10, _, _⟩ := DataW.trod_int Tryd.underlying3 g2
  obtain ⟨a11, e11, _, _⟩ := DataW.trod_int Tryd.underlying2 f0
  obtain ⟨a12, e12, _, hw⟩ := DataW.trod_int Tryd.underlying30 f1
  simp at e0 e1 e2 e3 e4 e5 e6 e7 e8 e9 e10 e11 e12
  subst e0 e1 e2 e3 e4 e5 e6 e7 e8 e9 e10 e11 e12
  exact ⟨⟨_, _, _, _, _, _, ⟨_, _, _, _, _, _, _⟩⟩, rfl, hw, s3, s4⟩
theorem cells_link {H : Type} {enc : TypeId × Value → H} {w : World} {base : Nat} {spare : Nat → Bool} {held : Bool} {fuel : Nat} {cs : List Value} {x : DataW H × List MemPlace} (hl : cs.length = 2)
    (hf : DataW.trod enc Tryd.prog w base spare held fuel 56 cs = some x) : ∃ k : Lk, cs = lcell k ∧ k.tg.size ≤ maxLen ∧ k.nm.size ≤ maxLen := by
  match cs, hl with
  | [c0, c1], _ =>
  obtain ⟨x0, x1, n3, _, _, f0, f1⟩ := trod_struct2 Tryd.underlying56 hf
  simp only [cells_str] at f0 f1
  obtain ⟨a0, e0, _, s0⟩ := DataW.trod_string Tryd.underlying9 f0
  obtain ⟨a1, e1, _, s1⟩ := DataW.trod_string Tryd.underlying9 f1
  simp at e0 e1
  subst e0 e1
  exact ⟨⟨_, _⟩, rfl, s0, s1⟩
theorem cells_eras : Tryd.prog.cellsOf 35 = 1 := by kernel_rfl
theorem cells_rules1 : Tryd.prog.cellsOf 22 = 1 := by kernel_rfl
theorem cells_zones1 : Tryd.prog.cellsOf 23 = 1 := by kernel_rfl
theorem cells_links1 : Tryd.prog.cellsOf 24 = 1 := by kernel_rfl
theorem cells_11 : Tryd.prog.cellsOf 34 = 11 := by kernel_rfl
theorem cells_13 : Tryd.prog.cellsOf 50 = 13 := by kernel_rfl
theorem cells_2z : Tryd.prog.cellsOf 37 = 2 := by kernel_rfl
theorem cells_2l : Tryd.prog.cellsOf 56 = 2 := by kernel_rfl
theorem cells_zone {H : Type} {enc : TypeId × Value → H} {w : World} {base : Nat} {spare : Nat → Bool} {held : Bool} {fuel : Nat} {cs : List Value} {x : DataW H × List MemPlace} (hl : cs.length = 2)
    (hf : DataW.trod enc Tryd.prog w base spare held fuel 37 cs = some x) : ∃ z : Zd, cs = zcell z ∧ z.nm.size ≤ maxLen ∧ z.es.length ≤ maxLen ∧ Rk w w.heap.size z.A (z.es.flatMap ecell) ∧ ∀ e ∈ z.es, (Lit.int .u8 e.u.c).wf = true ∧ e.ru.size ≤ maxLen ∧ e.fm.size ≤ maxLen := by
  match cs, hl with
  | [c0, c1], _ =>
  obtain ⟨x0, x1, n3, _, _, f0, f1⟩ := trod_struct2 Tryd.underlying37 hf
  simp only [cells_str, cells_eras] at f0 f1
  obtain ⟨a0, e0, _, s0⟩ := DataW.trod_string Tryd.underlying9 f0
  obtain ⟨A, c, l, e1, hl, hR, _, hg⟩ := open_rows ecell 13 (fun e => (Lit.int .u8 e.u.c).wf = true ∧ e.ru.size ≤ maxLen ∧ e.fm.size ≤ maxLen) Tryd.underlying35 cells_13 (by decide) ecell_len (fun n cs y h1 h2 => cells_era h1 h2) f1
  simp at e0 e1
  subst e0 e1
  exact ⟨⟨_, A, c, l⟩, rfl, s0, hl, hR, hg⟩
theorem nn_u8 {c : Int} (h : (Lit.int .u8 c).wf = true) : 0 ≤ c := by
  have := bounds_u8 h
  omega
theorem open_source2 {H : Type} {enc : TypeId × Value → H} {w : World} {base : Nat} {spare : Nat → Bool} {held : Bool} {r : Reach} {b0 : Nat} {v : Value} {d : DataW H} {p : List MemPlace}
    (hv : Value.okWide Tryd.prog w r b0 26 v) (h : DataW.Trod enc Tryd.prog w base spare held 26 v d p) :
    ∃ s : Sd, v = s.val ∧ s.fits ∧ s.at_ w w.heap.size ∧ So.nn s.src ∧ (s.rA = none → s.rc = 0) ∧ (s.zA = none → s.zc = 0) ∧ (s.lA = none → s.lc = 0) := by
  obtain ⟨cs, rfl, hsz⟩ := okWide_struct Tryd.underlying26 hv
  have hsz : cs.size = 3 := hsz.trans (by kernel_rfl)
  obtain ⟨l⟩ := cs
  match l, hsz with
  | [c0, c1, c2], _ =>
  obtain ⟨fuel, hf⟩ := h
  obtain ⟨y0, y1, y2, n, _, _, h0, h1, h2⟩ := trod_struct3 Tryd.underlying26 hf
  simp only [Value.cells, cells_rules1, cells_zones1, cells_links1] at h0 h1 h2
  obtain ⟨rA, rc, rs, e0, l0, R0, N0, g0⟩ := open_rows rcell 11 (fun r => (Lit.int .u8 r.c).wf = true ∧ r.nm.size ≤ maxLen ∧ r.lt.size ≤ maxLen) Tryd.underlying22 cells_11 (by decide) rcell_len (fun n cs y h1 h2 => cells_rule h1 h2) h0
  obtain ⟨zA, zc, zs, e1, l1, R1, N1, g1⟩ := open_rows zcell 2 (fun z => z.nm.size ≤ maxLen ∧ z.es.length ≤ maxLen ∧ Rk w w.heap.size z.A (z.es.flatMap ecell) ∧ ∀ e ∈ z.es, (Lit.int .u8 e.u.c).wf = true ∧ e.ru.size ≤ maxLen ∧ e.fm.size ≤ maxLen) Tryd.underlying23 cells_2z (by decide) zcell_len (fun n cs y h1 h2 => cells_zone h1 h2) h1
  obtain ⟨lA, lc, ls, e2, l2, R2, N2, g2⟩ := open_rows lcell 2 (fun k => k.tg.size ≤ maxLen ∧ k.nm.size ≤ maxLen) Tryd.underlying24 cells_2l (by decide) lcell_len (fun n cs y h1 h2 => cells_link h1 h2) h2
  simp at e0 e1 e2
  subst e0 e1 e2
  have hm : maxLen ≤ 9223372036854775807 := by unfold maxLen; omega
  refine ⟨⟨rA, rc, rs, zA, zc, zs, lA, lc, ls⟩, rfl, ⟨Nat.le_trans l0 hm, Nat.le_trans l1 hm, Nat.le_trans l2 hm, fun r hr => ?_, fun z hz => ?_, fun k hk => ?_⟩, ⟨R0, R1, fun z hz => (g1 z hz).2.2.1, R2⟩, ⟨fun r hr => nn_u8 (g0 r hr).1, fun z hz e he => ?_⟩, N0, N1, N2⟩
  · have := g0 r hr
    exact ⟨Nat.le_trans this.2.1 hm, Nat.le_trans this.2.2 hm⟩
  · have h3 := g1 z hz
    exact ⟨Nat.le_trans h3.1 hm, Nat.le_trans h3.2.1 hm, fun e he => ⟨Nat.le_trans (h3.2.2.2 e he).2.1 hm, Nat.le_trans (h3.2.2.2 e he).2.2 hm⟩⟩
  · have := g2 k hk
    exact ⟨Nat.le_trans this.1 hm, Nat.le_trans this.2 hm⟩
  · obtain ⟨z', hz', rfl⟩ := List.mem_map.1 hz
    exact nn_u8 ((g1 z' hz').2.2.2 e he).1
theorem open_source {H : Type} {enc : TypeId × Value → H} {w : World} {base : Nat} {spare : Nat → Bool} {held : Bool} {r : Reach} {b0 : Nat} {v : Value} {d : DataW H} {p : List MemPlace}
    (hv : Value.okWide Tryd.prog w r b0 26 v) (h : DataW.Trod enc Tryd.prog w base spare held 26 v d p) :
    ∃ s : Sd, v = s.val ∧ s.fits ∧ s.at_ w w.heap.size ∧ So.nn s.src := by
  obtain ⟨s, h1, h2, h3, h4, _⟩ := open_source2 hv h
  exact ⟨s, h1, h2, h3, h4⟩
end Go.Proofs.YthlbockphdbpkaaDoor
