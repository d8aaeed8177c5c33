/- Tab, Fm, Blk, FmC, FmD, FmE, one behind the other. -/
import Derived.Test.YtkcbmnboccjnnaaGreatDoorProg
import Derived.Lib.LaidTab
import Derived.ChangeArms
import Derived.Lib.AppendIntMem
import Derived.Lib.IndexMore
import Derived.Lib.Hide
import Derived.Test.YtkcbmnboccjnnaaGreatDoorMb
import Derived.Test.YtkcbmnboccjnnaaGreatDoorShelf
import Derived.Test.YtkcbmnboccjnnaaGreatDoorMa
import Derived.Laws.IdiomStrings
import Derived.Laws.AppendOwn
import Derived.Lib.BufferWrite
import Derived.Deep.RegionHeld3
import Derived.Outline
import Derived.Deep.RegionLaw
import Derived.Lib.LazyBuf
import Derived.LoopN
import Derived.Handy
import Derived.OwnWalk
import Derived.BigQuiet
import Derived.WalkKit
import Derived.LoopTactic
import Derived.Deep.QuietTactic
import Derived.Deep.LoopGhost
/- From what a row lists of package-level variables to what they hold: tables of numbers, and of strings; and what a witness' world puts into them. -/




namespace Go.Proofs.YtkcbmnboccjnnaaGreatDoor
open Go.RowKit
/-- A table of strings as a row lists it. -/
def strTab {H : Type} (ss : List (List UInt8)) : DataW H := .agg (ss.map fun s => .lit (.string s))
/-- The variable holds just these strings. -/
def StrsAre (P : Program) (w : World) (name : String) (ss : List (List UInt8)) : Prop := w.var? P name = some (ss.map fun s => Value.string ⟨s.toArray⟩).toArray
theorem cells_of_strs {H : Type} {enc : TypeId × Value → H} {P : Program} {w : World} {base : Nat} {sp : Nat → Bool} {held : Bool} {fuel : Nat} {t e : TypeId} {n : Nat} {cs : List Value} {ss : List (List UInt8)} {p : List MemPlace}
    (ht : P.underlying t = some (.array n e)) (he : P.underlying e = some .string) (hce : P.cellsOf e = 1) (hct : P.cellsOf t = n)
    (h : DataW.trod enc P w base sp held fuel t cs = some (strTab ss, p)) : cs = ss.map fun s => Value.string ⟨s.toArray⟩ := by
  cases fuel with
  | zero => cases h
  | succ fuel =>
    simp only [DataW.trod, ht, hce, hct, Nat.mul_one] at h
    split at h
    · rename_i hl
      obtain ⟨xs, hm, hx⟩ := Option.map_eq_some_iff.1 h
      have hxs : xs.map (·.1) = ss.map fun s => (DataW.lit (.string s) : DataW H) := by
        have := congrArg Prod.fst hx
        simpa [strTab] using this
      have hxl : xs.length = n := by simpa using Lib.mapM_length hm
      have hsl : ss.length = n := by
        have h1 := congrArg List.length hxs
        simp only [List.length_map] at h1
        omega
      refine List.ext_getElem? fun i => ?_
      by_cases hi : i < n
      · obtain ⟨b, hb, hf⟩ := Lib.mapM_at hm i i (by simp [hi])
        obtain ⟨s, hc, rfl, _⟩ := DataW.trod_string he hf
        have h1 : cs[i]? = some (.string s) := by
          have := congrArg (·[0]?) hc
          simpa [List.getElem?_take, List.getElem?_drop] using this
        have h2 : (ss.map fun s => (DataW.lit (.string s) : DataW H))[i]? = some (DataW.lit (.string s.data.toList)) := by rw [← hxs]; simp [hb]
        rw [List.getElem?_map, Option.map_eq_some_iff] at h2
        obtain ⟨l, hl', e1⟩ := h2
        injection e1 with e2
        injection e2 with e3
        rw [h1, List.getElem?_map, hl', e3]
        rfl
      · rw [List.getElem?_eq_none (by omega), List.getElem?_eq_none (by simp; omega)]
    · cases h
theorem strs_of_laid {P : Program} {W : World} {name : String} {ss : List (List UInt8)} {g : Nat} {t e : TypeId} {n : Nat}
    (hg : P.globalNamed name = some g) (hty : (P.globals[g]?).map (·.type) = some t) (ht : P.underlying t = some (.array n e)) (he : P.underlying e = some .string) (hce : P.cellsOf e = 1) (hct : P.cellsOf t = n) :
    ∀ {L : List (String × DataW Unit)} {ps : List MemPlace}, DataW.LaidVars P W L ps → (name, strTab ss) ∈ L → StrsAre P W name ss
  | [], _, _, hm => by cases hm
  | (n', d) :: r, ps, h, hm => by
    obtain ⟨g', t', cs, fuel, p, q, hg', ht', hvar, hd, hr, _⟩ := h
    rcases List.mem_cons.1 hm with hx | hx
    · injection hx with h1 h2
      subst h1 h2
      obtain rfl := Option.some.inj (hg.symm.trans hg')
      obtain rfl := Option.some.inj (hty.symm.trans ht')
      unfold StrsAre
      rw [hvar, ← cells_of_strs ht he hce hct hd]
    · exact strs_of_laid hg hty ht he hce hct hr hx
theorem ints_of_laid {P : Program} {W : World} {name : String} {k : IntKind} {zs : List Int} {g : Nat} {t e : TypeId} {n : Nat}
    (hg : P.globalNamed name = some g) (hty : (P.globals[g]?).map (·.type) = some t) (ht : P.underlying t = some (.array n e)) (he : P.underlying e = some (.int k)) (hce : P.cellsOf e = 1) (hct : P.cellsOf t = n) :
    ∀ {L : List (String × DataW Unit)} {ps : List MemPlace}, DataW.LaidVars P W L ps → (name, Lib.tabData k zs) ∈ L → Lib.TabIs P W name k zs
  | [], _, _, hm => by cases hm
  | (n', d) :: r, ps, h, hm => by
    obtain ⟨g', t', cs, fuel, p, q, hg', ht', hvar, hd, hr, _⟩ := h
    rcases List.mem_cons.1 hm with hx | hx
    · injection hx with h1 h2
      subst h1 h2
      obtain rfl := Option.some.inj (hg.symm.trans hg')
      obtain rfl := Option.some.inj (hty.symm.trans ht')
      unfold Lib.TabIs
      rw [hvar, ← Lib.cells_of_tab ht he hce hct hd]
    · exact ints_of_laid hg hty ht he hce hct hr hx
theorem StrsAre.cell {P : Program} {W : World} {name : String} {ss : List (List UInt8)} {g : Nat} (h : StrsAre P W name ss) (hg : P.globalNamed name = some g) (i : Nat) (s : List UInt8) (hi : ss[i]? = some s) :
    W.cell? ⟨g, i, none⟩ = some (.string ⟨s.toArray⟩) := by
  rw [World.var?_cell hg h i]
  simp [hi]
theorem StrsAre.below {P : Program} {w w' : World} {name : String} {ss : List (List UInt8)} (h : StrsAre P w name ss) (hb : Below w.heap.size w w') : StrsAre P w' name ss := by
  unfold StrsAre World.var? at *
  cases hg : P.globalNamed name with
  | none => simp [hg] at h
  | some g =>
    simp only [hg, Option.bind_some] at h ⊢
    have hlt : g < w.heap.size := by
      rcases Nat.lt_or_ge g w.heap.size with h' | h'
      · exact h'
      · rw [Array.getElem?_eq_none h'] at h; simp at h
    rw [hb.block g hlt]
    exact h
def lit1 : DataW Unit → Value
  | .lit (.int k z) => .int k z
  | .lit (.string l) => .string ⟨l.toArray⟩
  | _ => undef
def row1 : DataW Unit → Array Value
  | .agg ds => (ds.map lit1).toArray
  | _ => #[]
def row2 : DataW Unit → Array Value
  | .agg ds => (ds.flatMap fun | .agg es => es.map lit1 | _ => []).toArray
  | _ => #[]
def putCells (cs : Array Value) : Obj → Obj
  | .cells _ t frozen => .cells cs t frozen
  | o => o
end Go.Proofs.YtkcbmnboccjnnaaGreatDoor
/- Formats, letters and offsets of package abbr as lists of bytes. No program. -/


namespace Go.Proofs.YtkcbmnboccjnnaaGreatDoor
open Go.RowKit
theorem index_split : ∀ (s sub : List UInt8), 0 ≤ Lib.index s sub → s = s.take (Lib.index s sub).toNat ++ sub ++ s.drop ((Lib.index s sub).toNat + sub.length)
  | [], sub, h => by
    unfold Lib.index at *
    split at h
    · rename_i hp
      rw [if_pos hp]
      simp only [List.isEmpty_iff] at hp
      simp [hp]
    · omega
  | c :: s, sub, h => by
    unfold Lib.index at *
    split at h
    · rename_i hp
      rw [if_pos hp]
      obtain ⟨t, ht⟩ := List.isPrefixOf_iff_prefix.1 hp
      rw [← ht]
      simp
    · rename_i hp
      rw [if_neg hp]
      split at h
      · omega
      · rename_i hn
        rw [if_neg hn]
        have hge := Lib.index_ge s sub
        have hne : Lib.index s sub ≠ -1 := by simpa using hn
        have ih := index_split s sub (by omega)
        have e : (Lib.index s sub + 1).toNat = (Lib.index s sub).toNat + 1 := by omega
        rw [e]
        simp only [List.take_succ_cons, List.cons_append, List.cons.injEq, true_and]
        rw [show (Lib.index s sub).toNat + 1 + sub.length = ((Lib.index s sub).toNat + sub.length) + 1 by omega, List.drop_succ_cons]
        exact ih
theorem index_without {s sub : List UInt8} {c : UInt8} {t : List UInt8} (hs : sub = c :: t) (h : ∀ x ∈ s, x ≠ c) : Lib.index s sub = -1 := by
  apply Lib.index_none
  intro j _
  cases ho : Lib.occAt s sub j with
  | false => rfl
  | true =>
    have h1 := Lib.occAt_head hs ho
    exact absurd rfl (h c (List.mem_of_getElem? h1))
namespace Fm
def isd (c : UInt8) : Bool := decide (48 ≤ c.toNat ∧ c.toNat ≤ 57)
def sg (c : UInt8) : Bool := decide ((97 ≤ c.toNat ∧ c.toNat ≤ 122) ∨ (65 ≤ c.toNat ∧ c.toNat ≤ 90) ∨ (48 ≤ c.toNat ∧ c.toNat ≤ 57) ∨ c.toNat = 43 ∨ c.toNat = 45)
def sgs (l : List UInt8) : Bool := l.all sg
/-- What the mark of a format stands for, what is ahead of it, what behind. -/
def cutF (l : List UInt8) : Nat × List UInt8 × List UInt8 :=
  if (Lib.cut l [37, 115]).2.2 = true then (0, (Lib.cut l [37, 115]).1, (Lib.cut l [37, 115]).2.1)
  else if (Lib.cut l [37, 122]).2.2 = true then (1, (Lib.cut l [37, 122]).1, (Lib.cut l [37, 122]).2.1)
  else if (Lib.cut l [47]).2.2 = true then (2, (Lib.cut l [47]).1, (Lib.cut l [47]).2.1) else (3, l, [])
def fits (m : Nat) (a b : List UInt8) : Bool := !(m == 2 && (a.isEmpty || b.isEmpty)) && (sgs a && sgs b)
/-- A format is right. -/
def fmt (l : List UInt8) : Bool := decide (1 ≤ l.length ∧ l.length ≤ 32) && fits (cutF l).1 (cutF l).2.1 (cutF l).2.2
/-- A letter is right. -/
def ltr (l : List UInt8) : Bool := decide (l.length ≤ 32) && (!(l == [45]) && sgs l)
theorem sg_37 : sg 37 = false := by decide
theorem sg_47 : sg 47 = false := by decide
theorem sgs_ne {l : List UInt8} {c : UInt8} (h : sgs l = true) (hc : sg c = false) : ∀ x ∈ l, x ≠ c := by
  intro x hx e
  subst e
  have := List.all_eq_true.1 h x hx
  rw [hc] at this
  cases this
theorem cut_join {l sep : List UInt8} (h : (Lib.cut l sep).2.2 = true) : l = (Lib.cut l sep).1 ++ sep ++ (Lib.cut l sep).2.1 := by
  unfold Lib.cut at *
  split at h
  · rename_i hi
    rw [if_pos hi]
    exact index_split l sep hi
  · cases h
theorem cut_none {l sep : List UInt8} {c : UInt8} {t : List UInt8} (hs : sep = c :: t) (h : ∀ x ∈ l, x ≠ c) : Lib.cut l sep = (l, [], false) := by
  unfold Lib.cut
  rw [index_without hs h, if_neg (by omega)]
/-- How a format lies. -/
theorem cutF_cases (l : List UInt8) : ∃ m a b, cutF l = (m, a, b) ∧ ((m = 0 ∧ l = a ++ [37, 115] ++ b) ∨ (m = 1 ∧ l = a ++ [37, 122] ++ b) ∨ (m = 2 ∧ l = a ++ [47] ++ b) ∨ (m = 3 ∧ l = a ∧ b = [])) := by
  unfold cutF
  by_cases h1 : (Lib.cut l [37, 115]).2.2 = true
  · rw [if_pos h1]
    exact ⟨_, _, _, rfl, .inl ⟨rfl, cut_join h1⟩⟩
  · rw [if_neg h1]
    by_cases h2 : (Lib.cut l [37, 122]).2.2 = true
    · rw [if_pos h2]
      exact ⟨_, _, _, rfl, .inr (.inl ⟨rfl, cut_join h2⟩)⟩
    · rw [if_neg h2]
      by_cases h3 : (Lib.cut l [47]).2.2 = true
      · rw [if_pos h3]
        exact ⟨_, _, _, rfl, .inr (.inr (.inl ⟨rfl, cut_join h3⟩))⟩
      · rw [if_neg h3]
        exact ⟨_, _, _, rfl, .inr (.inr (.inr ⟨rfl, rfl, rfl⟩))⟩
theorem cutF_signs {l : List UInt8} (h : sgs l = true) : cutF l = (3, l, []) := by
  unfold cutF
  rw [cut_none rfl (sgs_ne h sg_37), cut_none rfl (sgs_ne h sg_37), cut_none rfl (sgs_ne h sg_47)]
  rfl
theorem fmt_signs {l : List UInt8} (h : sgs l = true) (h1 : 1 ≤ l.length) (h2 : l.length ≤ 32) : fmt l = true := by
  unfold fmt fits
  rw [cutF_signs h]
  simp [h1, h2, sgs]
  exact List.all_eq_true.1 h
def hasP (l : List UInt8) : Bool := l.any fun c => c == 37
def hasS (l : List UInt8) : Bool := l.any fun c => c == 47
theorem no_37 {l : List UInt8} (h : sgs l = true) : hasP l = false := by
  unfold hasP
  rw [List.any_eq_false]
  intro x hx
  have := sgs_ne h sg_37 x hx
  simpa using this
theorem no_47 {l : List UInt8} (h : sgs l = true) : hasS l = false := by
  unfold hasS
  rw [List.any_eq_false]
  intro x hx
  have := sgs_ne h sg_47 x hx
  simpa using this
theorem fits_signs {m : Nat} {a b : List UInt8} (h : fits m a b = true) : sgs a = true ∧ sgs b = true ∧ (m = 2 → a ≠ [] ∧ b ≠ []) := by
  unfold fits at h
  simp only [Bool.and_eq_true, Bool.not_eq_true', Bool.and_eq_false_iff, Bool.or_eq_false_iff, beq_eq_false_iff_ne, List.isEmpty_eq_false_iff] at h
  refine ⟨h.2.1, h.2.2, fun hm => ?_⟩
  rcases h.1 with h1 | h1
  · exact absurd hm h1
  · exact h1
/-- What a right format is. -/
theorem fmt_cases {l : List UInt8} (h : fmt l = true) : 1 ≤ l.length ∧ l.length ≤ 32 ∧ ∃ m a b, cutF l = (m, a, b) ∧ sgs a = true ∧ sgs b = true ∧
    ((m = 0 ∧ l = a ++ [37, 115] ++ b ∧ hasP l = true) ∨ (m = 1 ∧ l = a ++ [37, 122] ++ b ∧ hasP l = true) ∨ (m = 2 ∧ l = a ++ [47] ++ b ∧ hasP l = false ∧ hasS l = true) ∨ (m = 3 ∧ l = a ∧ b = [] ∧ hasP l = false ∧ hasS l = false)) := by
  unfold fmt at h
  rw [Bool.and_eq_true, decide_eq_true_eq] at h
  obtain ⟨⟨h1, h2⟩, h3⟩ := h
  obtain ⟨m, a, b, hc, hw⟩ := cutF_cases l
  rw [hc] at h3
  obtain ⟨ha, hb, _⟩ := fits_signs h3
  refine ⟨h1, h2, m, a, b, hc, ha, hb, ?_⟩
  rcases hw with ⟨rfl, e⟩ | ⟨rfl, e⟩ | ⟨rfl, e⟩ | ⟨rfl, e, e2⟩
  · exact .inl ⟨rfl, e, by rw [e]; simp [hasP]⟩
  · exact .inr (.inl ⟨rfl, e, by rw [e]; simp [hasP]⟩)
  · have pa := no_37 ha
    have pb := no_37 hb
    refine .inr (.inr (.inl ⟨rfl, e, ?_, by rw [e]; simp [hasS]⟩))
    rw [e]
    unfold hasP at *
    rw [List.any_append, List.any_append, pa, pb]
    rfl
  · subst e
    exact .inr (.inr (.inr ⟨rfl, rfl, e2, no_37 ha, no_47 ha⟩))
end Fm
end Go.Proofs.YtkcbmnboccjnnaaGreatDoor
/- Blocks of memory, and texts made of them, where the seat has no package little. -/



















namespace Go.Proofs.YtkcbmnboccjnnaaGreatDoor
open Go.RowKit
theorem cell_blk {w : World} {g : Nat} {t : TypeId} {cs : Array Value} (h : w.heap[g]? = some (.cells cs t (0, 0))) (i : Nat) : w.cell? ⟨g, i, none⟩ = cs[i]? := cell_of_row w g i cs t (0, 0) h
theorem frozen_blk {w : World} {g : Nat} {t : TypeId} {cs : Array Value} (h : w.heap[g]? = some (.cells cs t (0, 0))) (i : Nat) : w.frozen? ⟨g, i, none⟩ = false := by simp [World.frozen?, h]
theorem set_blk {w : World} {g : Nat} {t : TypeId} {cs : Array Value} (h : w.heap[g]? = some (.cells cs t (0, 0))) (i : Nat) (u : Value) : (w.setCell ⟨g, i, none⟩ u).heap[g]? = some (.cells (cs.setIfInBounds i u) t (0, 0)) := by
  simp [World.setCell, Array.getElem?_modify, h]
theorem lt_blk {w : World} {g : Nat} {o : Obj} (h : w.heap[g]? = some o) : g < w.heap.size := by
  rcases Nat.lt_or_ge g w.heap.size with hlt | hge
  · exact hlt
  · rw [Array.getElem?_eq_none hge] at h; cases h
theorem addr_add (g j : Nat) : (⟨g, 0, none⟩ : Addr).add j = ⟨g, j, none⟩ := by unfold Addr.add; split <;> simp_all
/-- 'string(b)' of a block whose first cells are the bytes l. -/
theorem conv_blk {w : World} {g cap : Nat} {l : List UInt8} {n : Nat} (hn : n = l.length) (hc : ∀ j (hj : j < l.length), w.cell? ⟨g, j, none⟩ = some (.int .u8 (l[j].toNat : Int))) :
    (convert 85 9 (.slice (some ⟨g, 0, none⟩) n cap)).run Tryz.prog w = .ok (.string ⟨l.toArray⟩) w := by
  subst hn
  exact run_convert_bytes_back w 85 9 5 ⟨g, 0, none⟩ cap l Tryz.underlying85 Tryz.underlying5 Tryz.underlying9 (fun j hj => by rw [addr_add]; exact hc j hj)
theorem u8_info : (Tryz.prog.info? 5).map (fun i => (i.zero, i.size, i.bytes)) = some (some (.int .u8 0), 1, 1) := by kernel_rfl
theorem isSome_blk {w : World} {g : Nat} {t : TypeId} {cs : Array Value} (h : w.heap[g]? = some (.cells cs t (0, 0))) (i : Nat) (hi : i < cs.size) : (w.cell? ⟨g, i, none⟩).isSome = true := by
  rw [cell_blk h, Array.getElem?_eq_getElem hi]; rfl
def tup (s : List UInt8) (k : Int) : Ending := .returned (.tuple #[.string ⟨s.toArray⟩, .int .i64 k])
theorem addr_at (g j : Nat) : (⟨g, 0, none⟩ : Addr).add j = ⟨g, j, none⟩ := addr_add g j
end Go.Proofs.YtkcbmnboccjnnaaGreatDoor
/- Contracts of package abbr: isDigit, isSign, areSigns, isLetter, cut, isFormat, Check, CheckLetter, Of. -/







namespace Go.Proofs.YtkcbmnboccjnnaaGreatDoor
open Go.RowKit
theorem aidx (S : ByteArray) (kd : IntKind) (k : Nat) (hk : k < S.size) (W : World) : (Instr.index 9 (.string S) (.int kd (k : Int))).run Tryz.prog W = .ok (.int .u8 (S[k].toNat : Int)) W := by
  rw [run_index_string (P := Tryz.prog) W 9 S kd k Tryz.underlying9, dif_pos ⟨by omega, by omega⟩]
  rfl
theorem aret_bool {a b : Bool} (h : a = b) : Ending.returned (.bool a) = .returned (.bool b) := by rw [h]
theorem adigit_any (c : UInt8) (w : World) : Calls Tryz.prog 224 #[.int .u8 (c.toNat : Int)] w fun e w' => e = .returned (.bool (Fm.isd c)) ∧ w = w' := by
  by_cases h1 : c.toNat < 48
  · have HE := Lib.hid (show Fm.isd c = false by unfold Fm.isd; simp; omega)
    have t1 : decide (48 ≤ (c.toNat : Int)) = false := by simp; omega
    clear h1
    go_enter Tryz.func224, Tryz.ntmps224
    go_wp2_with fail
    go_ret
    exact ⟨aret_bool HE.out.symm, rfl⟩
  · by_cases h2 : c.toNat ≤ 57
    · have HE := Lib.hid (show Fm.isd c = true by unfold Fm.isd; simp; omega)
      have t1 : 48 ≤ (c.toNat : Int) := by omega
      have t2 : (c.toNat : Int) ≤ 57 := by omega
      clear h1 h2
      go_enter Tryz.func224, Tryz.ntmps224
      go_wp2_with fail
      go_ret
      exact ⟨aret_bool HE.out.symm, rfl⟩
    · have HE := Lib.hid (show Fm.isd c = false by unfold Fm.isd; simp; omega)
      have t1 : 48 ≤ (c.toNat : Int) := by omega
      have t2 : decide ((c.toNat : Int) ≤ 57) = false := by simp; omega
      clear h1 h2
      go_enter Tryz.func224, Tryz.ntmps224
      go_wp2_with fail
      go_ret
      exact ⟨aret_bool HE.out.symm, rfl⟩
theorem adigit_is (c : UInt8) (v : Bool) (w : World) (h : Fm.isd c = v) : Calls Tryz.prog 224 #[.int .u8 (c.toNat : Int)] w fun e w' => e = .returned (.bool v) ∧ w = w' := by
  subst h
  exact adigit_any c w
theorem sg_yes {c : UInt8} (h : (97 ≤ (c.toNat : Int) ∧ (c.toNat : Int) ≤ 122) ∨ (65 ≤ (c.toNat : Int) ∧ (c.toNat : Int) ≤ 90) ∨ (48 ≤ (c.toNat : Int) ∧ (c.toNat : Int) ≤ 57) ∨ (c.toNat : Int) = 43 ∨ (c.toNat : Int) = 45) : true = Fm.sg c := by
  symm
  unfold Fm.sg
  rw [decide_eq_true_eq]
  omega
theorem sg_no {c : UInt8} (h : ¬ ((97 ≤ (c.toNat : Int) ∧ (c.toNat : Int) ≤ 122) ∨ (65 ≤ (c.toNat : Int) ∧ (c.toNat : Int) ≤ 90) ∨ (48 ≤ (c.toNat : Int) ∧ (c.toNat : Int) ≤ 57) ∨ (c.toNat : Int) = 43 ∨ (c.toNat : Int) = 45)) : false = Fm.sg c := by
  symm
  unfold Fm.sg
  rw [decide_eq_false_iff_not]
  omega
theorem sign_any (c : UInt8) (w : World) : Calls Tryz.prog 207 #[.int .u8 (c.toNat : Int)] w fun e w' => e = .returned (.bool (Fm.sg c)) ∧ w = w' := by
  have hb := c.toNat_lt
  cases hd : Fm.isd c with
  | true =>
    have HD := Lib.hid hd
    have h1 : 48 ≤ (c.toNat : Int) := by have := of_decide_eq_true hd; omega
    have h2 : (c.toNat : Int) ≤ 57 := by have := of_decide_eq_true hd; omega
    clear hd
    go_enter Tryz.func207, Tryz.ntmps207
    go_wp2_with (go_at_call 224; refine (adigit_is c true _ HD.out).mono ?_; rintro e w' ⟨rfl, rfl⟩)
    go_ret
    exact ⟨aret_bool (sg_yes (by omega)), rfl⟩
  | false =>
    have HD := Lib.hid hd
    have hx : ¬ (48 ≤ c.toNat ∧ c.toNat ≤ 57) := of_decide_eq_false hd
    have HX := Lib.hid hx
    clear hd hx
    by_cases e1 : c.toNat = 43
    · obtain rfl : c = 43 := UInt8.toNat_inj.1 e1
      clear HX hb e1
      go_enter Tryz.func207, Tryz.ntmps207
      go_wp2_with (go_at_call 224; refine (adigit_is 43 false _ HD.out).mono ?_; rintro e w' ⟨rfl, rfl⟩)
      go_ret
      exact ⟨rfl, rfl⟩
    · by_cases e2 : c.toNat = 45
      · obtain rfl : c = 45 := UInt8.toNat_inj.1 e2
        clear HX hb e1 e2
        go_enter Tryz.func207, Tryz.ntmps207
        go_wp2_with (go_at_call 224; refine (adigit_is 45 false _ HD.out).mono ?_; rintro e w' ⟨rfl, rfl⟩)
        go_ret
        exact ⟨rfl, rfl⟩
      · have t1 : ((c.toNat : Int) == 43) = false := by rw [beq_eq_false_iff_ne]; omega
        have t2 : ((c.toNat : Int) == 45) = false := by rw [beq_eq_false_iff_ne]; omega
        have E1 := Lib.hid e1
        have E2 := Lib.hid e2
        clear e1 e2
        go_enter Tryz.func207, Tryz.ntmps207
        go_wp2_with (go_at_call 224; refine (adigit_is c false _ HD.out).mono ?_; rintro e w' ⟨rfl, rfl⟩)
        all_goals
          go_ret
          have h1 := HX.out
          have h2 := E1.out
          have h3 := E2.out
          exact ⟨aret_bool (by first | exact sg_yes (by omega) | exact sg_no (by omega)), rfl⟩
theorem sign_is (c : UInt8) (v : Bool) (w : World) (h : Fm.sg c = v) : Calls Tryz.prog 207 #[.int .u8 (c.toNat : Int)] w fun e w' => e = .returned (.bool v) ∧ w = w' := by
  subst h
  exact sign_any c w
theorem all_snoc' (l : List UInt8) (c : UInt8) : Fm.sgs (l ++ [c]) = (Fm.sgs l && Fm.sg c) := by simp [Fm.sgs]
theorem take_snoc' (s : ByteArray) (k : Nat) (h : k < s.size) : s.data.toList.take (k + 1) = s.data.toList.take k ++ [s[k]] := by
  rw [List.take_succ_eq_append_getElem (by simpa using h)]; rfl
theorem take_all' (s : ByteArray) : s.data.toList.take s.size = s.data.toList := List.take_of_length_le (by simp)
theorem sgs_stop {s : ByteArray} {k : Nat} (h : k < s.size) (hc : Fm.sg s[k] = false) : Fm.sgs s.data.toList = false := by
  unfold Fm.sgs
  rw [List.all_eq_false]
  refine ⟨s[k], ?_, by rw [hc]; simp⟩
  have : s.data.toList[k]? = some s[k] := Lib.data_getElem? s k h
  exact List.mem_of_getElem? this
set_option maxHeartbeats 1000000 in
theorem signs_any (A : Option Addr) (n c : Nat) (L : List ByteArray) (hl : L.length = n) (hn : n ≤ 4294967296) (hL : ∀ i, i < n → (L.getD i ByteArray.empty).size ≤ 4294967296)
    (w : World) (B : Nat) (hB : B ≤ w.heap.size) (hS : Sl w B A n (fun i => .string (L.getD i ByteArray.empty))) :
    Calls Tryz.prog 186 #[.slice A n c] w fun e w' => e = .returned (.bool (L.all fun s => Fm.sgs s.data.toList)) ∧ Below w.heap.size w w' := by
  have HL := Lib.hid hl
  have HZ := Lib.hid hL
  clear hl hL
  go_enter Tryz.func186, Tryz.ntmps186
  go_wp2_with fail
  go_loopw [8] (fun i wr => ∃ k : Nat, k ≤ n ∧ i = .int .i64 k ∧ (L.take k).all (fun s => Fm.sgs s.data.toList) = true ∧ Below w.heap.size w wr) (fun i _ => n - (intOf i).toNat)
  case atStart => exact ⟨0, Nat.zero_le _, rfl, rfl, Below.refl _ _⟩
  case round =>
    obtain ⟨k, hk, rfl, hG, hbw⟩ := hrel
    by_cases hlt : k < n
    · obtain ⟨ad, rfl, hal, hc⟩ := (hS.below (hbw.mono hB)).at_ hlt
      change wr.cell? (ad.add k) = some (.string (L.getD k ByteArray.empty)) at hc
      have hz := HZ.out k hlt
      have hkl : k < L.length := by rw [HL.out]; exact hlt
      have hd : L.take (k + 1) = L.take k ++ [L.getD k ByteArray.empty] := by
        rw [List.take_succ_eq_append_getElem hkl, List.getD_eq_getElem?_getD, List.getElem?_eq_getElem hkl]
        rfl
      have hm : L.getD k ByteArray.empty ∈ L := by
        rw [List.getD_eq_getElem?_getD, List.getElem?_eq_getElem hkl]
        exact List.getElem_mem hkl
      have hno : ∀ X, L.getD k ByteArray.empty = X → Fm.sgs X.data.toList = false → false = L.all (fun s => Fm.sgs s.data.toList) := by
        intro X hX h
        subst hX
        symm
        rw [List.all_eq_false]
        exact ⟨_, hm, by rw [h]; simp⟩
      have hyes : ∀ X, L.getD k ByteArray.empty = X → Fm.sgs X.data.toList = true → (L.take (k + 1)).all (fun s => Fm.sgs s.data.toList) = true := by
        intro X hX h
        rw [hd, hX, List.all_append, hG]
        simp [h]
      have HN := Lib.hid (hno _ rfl)
      have HY := Lib.hid (hyes _ rfl)
      clear hG hno hyes hd hm hkl
      generalize L.getD k ByteArray.empty = X at *
      go_wp2_with fail
      go_loopw [14] (fun i wq => ∃ j : Nat, j ≤ X.size ∧ i = .int .i64 j ∧ Fm.sgs (X.data.toList.take j) = true ∧ Below w.heap.size w wq) (fun i _ => X.size - (intOf i).toNat)
      case atStart => exact ⟨0, Nat.zero_le _, rfl, rfl, hbw⟩
      case round =>
        obtain ⟨j, hj, rfl, hJ, hbj⟩ := hrel
        by_cases hjt : j < X.size
        · have hi0 := aidx X .i64 j hjt
          cases hs : Fm.sg X[j] with
          | true =>
            have HJ := Lib.hid (show Fm.sgs (X.data.toList.take (j + 1)) = true by rw [take_snoc' X j hjt, all_snoc', hJ, hs]; rfl)
            have HS := Lib.hid hs
            clear hJ hs
            go_wp2_with fail
            refine (sign_is X[j] true _ HS.out).mono ?_
            rintro e w' ⟨rfl, rfl⟩
            go_wp2_with fail
            go_roundw
            case rel => exact ⟨j + 1, by omega, by go_num, HJ.out, hbj⟩
            case measure => simp [intOf]; omega
          | false =>
            have HJ := Lib.hid (HN.out (sgs_stop hjt hs))
            have HS := Lib.hid hs
            clear hJ hs
            go_wp2_with fail
            refine (sign_is X[j] false _ HS.out).mono ?_
            rintro e w' ⟨rfl, rfl⟩
            go_wp2_with fail
            go_ret
            exact ⟨aret_bool HJ.out, hbj⟩
        · obtain rfl : j = X.size := by omega
          have HJ := Lib.hid (HY.out (by rw [take_all'] at hJ; exact hJ))
          clear hJ
          go_wp2_with fail
          go_roundw
          case rel => exact ⟨k + 1, by omega, by go_num, HJ.out, hbj⟩
          case measure => simp [intOf]; omega
    · obtain rfl : k = n := by omega
      have HG := Lib.hid (show true = L.all (fun s => Fm.sgs s.data.toList) by rw [List.take_of_length_le (by rw [HL.out]; exact Nat.le_refl _)] at hG; exact hG.symm)
      clear hG
      go_wp2_with fail
      go_ret
      exact ⟨aret_bool HG.out, hbw⟩
end Go.Proofs.YtkcbmnboccjnnaaGreatDoor
/- Contracts of package abbr: isLetter, CheckLetter, cut, isFormat, Check, Of. -/


namespace Go.Proofs.YtkcbmnboccjnnaaGreatDoor
open Go.RowKit
def markL : List (List UInt8) := [[37, 115], [37, 122], [47]]
/-- What the calls below read of package-level variables: the marks, and the length up to which the library looks for a byte by itself. -/
def Marks (w : World) : Prop := StrsAre Tryz.prog w "solstice/abbr.marks" markL
def Mxa (w : World) : Prop := ∃ m : Int, w.cell? ⟨1, 0, none⟩ = some (.int .i64 m)
theorem gMarks : Tryz.prog.globalNamed "solstice/abbr.marks" = some 3 := by kernel_rfl
theorem Marks.m0 {w : World} (h : Marks w) : w.cell? ⟨3, 0, none⟩ = some (.string ⟨#[37, 115]⟩) := StrsAre.cell h gMarks 0 _ rfl
theorem Marks.m1 {w : World} (h : Marks w) : w.cell? ⟨3, 1, none⟩ = some (.string ⟨#[37, 122]⟩) := StrsAre.cell h gMarks 1 _ rfl
theorem Marks.m2 {w : World} (h : Marks w) : w.cell? ⟨3, 2, none⟩ = some (.string ⟨#[47]⟩) := StrsAre.cell h gMarks 2 _ rfl
theorem Marks.below {w w' : World} (h : Marks w) (hb : Below w.heap.size w w') : Marks w' := StrsAre.below h hb
theorem Mxa.below {w w' : World} (h : Mxa w) (hb : Below w.heap.size w w') : Mxa w' := by
  obtain ⟨m, hm⟩ := h
  exact ⟨m, (hb.cell (lt_cell hm)).trans hm⟩
theorem acut_is (s sep a b : ByteArray) (ok : Bool) (w : World) (hM : Mxa w) (hs : s.size < 4294967281) (h1 : (⟨(Lib.cut s.data.toList sep.data.toList).1.toArray⟩ : ByteArray) = a) (h2 : (⟨(Lib.cut s.data.toList sep.data.toList).2.1.toArray⟩ : ByteArray) = b) (h3 : (Lib.cut s.data.toList sep.data.toList).2.2 = ok) :
    Calls Tryz.prog 214 #[.string s, .string sep] w fun e w' => e = .returned (.tuple #[.string a, .string b, .bool ok]) ∧ Below w.heap.size w w' := by
  subst h1 h2 h3
  obtain ⟨m, hm⟩ := hM
  exact (Tryz.strings_Cut s sep m w hs hm).mono fun _ _ ⟨he, n, hw⟩ => ⟨he, by rw [hw]; exact below_drewN (Below.refl _ _) n⟩
theorem sl_one {W : World} {g : Nat} {s : ByteArray} (hg : g < W.heap.size) (hc : W.cell? ⟨g, 0, none⟩ = some (.string s)) : Sl W W.heap.size (some ⟨g, 0, none⟩) 1 (fun i => .string ([s].getD i ByteArray.empty)) := by
  intro _
  refine ⟨⟨g, 0, none⟩, rfl, hg, fun i hi => ?_⟩
  obtain rfl : i = 0 := by omega
  rw [addr_at]
  exact hc
theorem sl_two {W : World} {g : Nat} {s t : ByteArray} (hg : g < W.heap.size) (hc : W.cell? ⟨g, 0, none⟩ = some (.string s)) (hd : W.cell? ⟨g, 1, none⟩ = some (.string t)) : Sl W W.heap.size (some ⟨g, 0, none⟩) 2 (fun i => .string ([s, t].getD i ByteArray.empty)) := by
  intro _
  refine ⟨⟨g, 0, none⟩, rfl, hg, fun i hi => ?_⟩
  have hi2 : i = 0 ∨ i = 1 := by omega
  rcases hi2 with rfl | rfl
  · rw [addr_at]
    exact hc
  · rw [addr_at]
    exact hd
theorem signs_1 (s : ByteArray) (v : Bool) (g : Nat) (W : World) (hs : s.size ≤ 4294967296) (hg : g < W.heap.size) (hc : W.cell? ⟨g, 0, none⟩ = some (.string s)) (hv : Fm.sgs s.data.toList = v) :
    Calls Tryz.prog 186 #[.slice (some ⟨g, 0, none⟩) 1 1] W fun e w' => e = .returned (.bool v) ∧ Below W.heap.size W w' := by
  have h := signs_any (some ⟨g, 0, none⟩) 1 1 [s] rfl (by omega) (fun i hi => by
    obtain rfl : i = 0 := by omega
    exact hs) W _ (Nat.le_refl _) (sl_one hg hc)
  have e : [s].all (fun s => Fm.sgs s.data.toList) = v := by simpa using hv
  rw [e] at h
  exact h
theorem signs_2 (s t : ByteArray) (v : Bool) (g : Nat) (W : World) (hs : s.size ≤ 4294967296) (ht : t.size ≤ 4294967296) (hg : g < W.heap.size) (hc : W.cell? ⟨g, 0, none⟩ = some (.string s)) (hd : W.cell? ⟨g, 1, none⟩ = some (.string t)) (hv : (Fm.sgs s.data.toList && Fm.sgs t.data.toList) = v) :
    Calls Tryz.prog 186 #[.slice (some ⟨g, 0, none⟩) 2 2] W fun e w' => e = .returned (.bool v) ∧ Below W.heap.size W w' := by
  have h := signs_any (some ⟨g, 0, none⟩) 2 2 [s, t] rfl (by omega) (fun i hi => by
    have hi2 : i = 0 ∨ i = 1 := by omega
    rcases hi2 with rfl | rfl
    · exact hs
    · exact ht) W _ (Nat.le_refl _) (sl_two hg hc hd)
  have e : [s, t].all (fun s => Fm.sgs s.data.toList) = v := by simpa using hv
  rw [e] at h
  exact h
theorem toList_ne {S : ByteArray} {l : List UInt8} (h : S.data.toList ≠ l) : (S.toList == l) = false ∧ ¬ S.toList = l := by
  rw [ByteArray.toList_eq]
  exact ⟨by rw [beq_eq_false_iff_ne]; exact h, h⟩
theorem letter_any (s : ByteArray) (w : World) : Calls Tryz.prog 153 #[.string s] w fun e w' => e = .returned (.bool (Fm.ltr s.data.toList)) ∧ Below w.heap.size w w' := by
  have hz : s.data.toList.length = s.size := by simp
  by_cases h1 : s.size ≤ 32
  · by_cases h2 : s.data.toList = [45]
    · obtain rfl : s = ⟨#[45]⟩ := ByteArray.ext (Array.toList_inj.1 h2)
      clear h2 hz h1
      go_enter Tryz.func153, Tryz.ntmps153
      go_wp2_with fail
      go_ret
      exact ⟨rfl, Below.refl _ _⟩
    · obtain ⟨n1, n2⟩ := toList_ne h2
      obtain ⟨v, hv⟩ : ∃ v, Fm.sgs s.data.toList = v := ⟨_, rfl⟩
      have HE := Lib.hid (show v = Fm.ltr s.data.toList by unfold Fm.ltr; rw [hv, hz]; simp [h1, h2])
      have HV := Lib.hid hv
      clear hv h2 hz
      go_enter Tryz.func153, Tryz.ntmps153
      go_wp2_with fail
      refine (signs_1 s v w.heap.size _ (by omega) (by simp) (by go_simp) HV.out).mono ?_
      rintro e w1 ⟨rfl, b1⟩
      have a1 : Below w.heap.size w w1 := ((Below.refl _ _).alloc (Nat.le_refl _) _).trans (b1.mono (by simp))
      go_wp2_with fail
      go_ret
      exact ⟨aret_bool HE.out, a1⟩
  · have HE := Lib.hid (show false = Fm.ltr s.data.toList by unfold Fm.ltr; rw [hz]; simp [h1])
    have h1' : 32 < s.size := by omega
    clear hz h1
    go_enter Tryz.func153, Tryz.ntmps153
    go_wp2_with fail
    go_ret
    exact ⟨aret_bool HE.out, Below.refl _ _⟩
theorem letter_is (s : ByteArray) (v : Bool) (w : World) (h : Fm.ltr s.data.toList = v) : Calls Tryz.prog 153 #[.string s] w fun e w' => e = .returned (.bool v) ∧ Below w.heap.size w w' := by
  subst h
  exact letter_any s w
theorem cletter_yes (s : ByteArray) (w : World) (h : Fm.ltr s.data.toList = true) : Calls Tryz.prog 112 #[.string s] w fun e w' => e = .returned (.int .i64 0) ∧ Below w.heap.size w w' := by
  have H := Lib.hid h
  clear h
  go_enter Tryz.func112, Tryz.ntmps112
  go_wp2_with fail
  refine (letter_is s true _ H.out).mono ?_
  rintro e w1 ⟨rfl, b1⟩
  go_wp2_with fail
  go_ret
  exact ⟨rfl, b1⟩
theorem cletter_no (s : ByteArray) (w : World) (h : Fm.ltr s.data.toList = false) : Calls Tryz.prog 112 #[.string s] w fun e w' => e = .returned (.int .i64 2) ∧ Below w.heap.size w w' := by
  have H := Lib.hid h
  clear h
  go_enter Tryz.func112, Tryz.ntmps112
  go_wp2_with fail
  refine (letter_is s false _ H.out).mono ?_
  rintro e w1 ⟨rfl, b1⟩
  go_wp2_with fail
  go_ret
  exact ⟨rfl, b1⟩
theorem sarr0 (a b c : Value) (W : World) : (Instr.index 223 (.agg #[a, b, c]) (.int .i64 0)).run Tryz.prog W = .ok a W := by kernel_rfl
theorem sarr1 (a b c : Value) (W : World) : (Instr.index 223 (.agg #[a, b, c]) (.int .i64 1)).run Tryz.prog W = .ok b W := by kernel_rfl
theorem sarr2 (a b c : Value) (W : World) : (Instr.index 223 (.agg #[a, b, c]) (.int .i64 2)).run Tryz.prog W = .ok c W := by kernel_rfl
/-- What cut answers. -/
def CutR (l : List UInt8) (e : Ending) : Prop := e = .returned (.tuple #[.int .i64 ((Fm.cutF l).1 : Nat), .string ⟨(Fm.cutF l).2.1.toArray⟩, .string ⟨(Fm.cutF l).2.2.toArray⟩])
theorem cutR_of {l : List UInt8} {m : Nat} {a b : ByteArray} (h : Fm.cutF l = (m, a.data.toList, b.data.toList)) : CutR l (.returned (.tuple #[.int .i64 (m : Int), .string a, .string b])) := by
  unfold CutR
  rw [h]
set_option maxHeartbeats 1000000 in
theorem fcut_any (s : ByteArray) (w : World) (hK : Marks w) (hM : Mxa w) (hs : s.size ≤ 1000) : Calls Tryz.prog 192 #[.string s] w fun e w' => CutR s.data.toList e ∧ Below w.heap.size w w' := by
  have m0 := hK.m0
  have m1 := hK.m1
  have m2 := hK.m2
  have l0 := lt_cell m0
  have i0 := sarr0 (.string ⟨#[37, 115]⟩) (.string ⟨#[37, 122]⟩) (.string ⟨#[47]⟩)
  have i1 := sarr1 (.string ⟨#[37, 115]⟩) (.string ⟨#[37, 122]⟩) (.string ⟨#[47]⟩)
  have i2 := sarr2 (.string ⟨#[37, 115]⟩) (.string ⟨#[37, 122]⟩) (.string ⟨#[47]⟩)
  have HM := Lib.hid hM
  clear hK hM
  obtain ⟨a0_, ha0⟩ : ∃ a, (⟨(Lib.cut s.data.toList [37, 115]).1.toArray⟩ : ByteArray) = a := ⟨_, rfl⟩
  obtain ⟨b0_, hb0⟩ : ∃ b, (⟨(Lib.cut s.data.toList [37, 115]).2.1.toArray⟩ : ByteArray) = b := ⟨_, rfl⟩
  have ea0 : a0_.data.toList = (Lib.cut s.data.toList [37, 115]).1 := by rw [← ha0]
  have eb0 : b0_.data.toList = (Lib.cut s.data.toList [37, 115]).2.1 := by rw [← hb0]
  cases h0 : (Lib.cut s.data.toList [37, 115]).2.2 with
  | true =>
    have HE := Lib.hid (cutR_of (show Fm.cutF s.data.toList = (0, a0_.data.toList, b0_.data.toList) by unfold Fm.cutF; rw [if_pos h0, ea0, eb0]))
    have HA0 := Lib.hid ha0
    have HB0 := Lib.hid hb0
    have H0 := Lib.hid h0
    clear ha0 hb0 h0 ea0 eb0
    go_enter Tryz.func192, Tryz.ntmps192
    go_wp2_with fail
    refine wp_loop_rounds 4 ?_
    rw [rounds_succ]
    go_wp2_with fail
    refine (acut_is s ⟨#[37, 115]⟩ a0_ b0_ true _ HM.out (by omega) HA0.out HB0.out H0.out).mono ?_
    rintro e w1 ⟨rfl, b1⟩
    have a1 := b1
    go_wp2_with fail
    go_ret3
    exact ⟨HE.out, a1⟩
  | false =>
    obtain ⟨a1_, ha1⟩ : ∃ a, (⟨(Lib.cut s.data.toList [37, 122]).1.toArray⟩ : ByteArray) = a := ⟨_, rfl⟩
    obtain ⟨b1_, hb1⟩ : ∃ b, (⟨(Lib.cut s.data.toList [37, 122]).2.1.toArray⟩ : ByteArray) = b := ⟨_, rfl⟩
    have ea1 : a1_.data.toList = (Lib.cut s.data.toList [37, 122]).1 := by rw [← ha1]
    have eb1 : b1_.data.toList = (Lib.cut s.data.toList [37, 122]).2.1 := by rw [← hb1]
    cases h1 : (Lib.cut s.data.toList [37, 122]).2.2 with
    | true =>
      have HE := Lib.hid (cutR_of (show Fm.cutF s.data.toList = (1, a1_.data.toList, b1_.data.toList) by unfold Fm.cutF; rw [if_neg (show ¬ (Lib.cut s.data.toList [37, 115]).2.2 = true by rw [h0]; simp), if_pos h1, ea1, eb1]))
      have HA0 := Lib.hid ha0
      have HB0 := Lib.hid hb0
      have H0 := Lib.hid h0
      have HA1 := Lib.hid ha1
      have HB1 := Lib.hid hb1
      have H1 := Lib.hid h1
      clear ha0 hb0 h0 ea0 eb0 ha1 hb1 h1 ea1 eb1
      go_enter Tryz.func192, Tryz.ntmps192
      go_wp2_with fail
      refine wp_loop_rounds 4 ?_
      rw [rounds_succ]
      go_wp2_with fail
      refine (acut_is s ⟨#[37, 115]⟩ a0_ b0_ false _ HM.out (by omega) HA0.out HB0.out H0.out).mono ?_
      rintro e w1 ⟨rfl, b1⟩
      have a1 := b1
      go_wp2_with fail
      rw [rounds_succ]
      go_wp2_with fail
      refine (acut_is s ⟨#[37, 122]⟩ a1_ b1_ true _ (HM.out.below a1) (by omega) HA1.out HB1.out H1.out).mono ?_
      rintro e w2 ⟨rfl, b2⟩
      have a2 := a1.trans (b2.mono a1.size)
      go_wp2_with fail
      go_ret3
      exact ⟨HE.out, a2⟩
    | false =>
      obtain ⟨a2_, ha2⟩ : ∃ a, (⟨(Lib.cut s.data.toList [47]).1.toArray⟩ : ByteArray) = a := ⟨_, rfl⟩
      obtain ⟨b2_, hb2⟩ : ∃ b, (⟨(Lib.cut s.data.toList [47]).2.1.toArray⟩ : ByteArray) = b := ⟨_, rfl⟩
      have ea2 : a2_.data.toList = (Lib.cut s.data.toList [47]).1 := by rw [← ha2]
      have eb2 : b2_.data.toList = (Lib.cut s.data.toList [47]).2.1 := by rw [← hb2]
      cases h2 : (Lib.cut s.data.toList [47]).2.2 with
      | true =>
        have HE := Lib.hid (cutR_of (show Fm.cutF s.data.toList = (2, a2_.data.toList, b2_.data.toList) by unfold Fm.cutF; rw [if_neg (show ¬ (Lib.cut s.data.toList [37, 115]).2.2 = true by rw [h0]; simp), if_neg (show ¬ (Lib.cut s.data.toList [37, 122]).2.2 = true by rw [h1]; simp), if_pos h2, ea2, eb2]))
        have HA0 := Lib.hid ha0
        have HB0 := Lib.hid hb0
        have H0 := Lib.hid h0
        have HA1 := Lib.hid ha1
        have HB1 := Lib.hid hb1
        have H1 := Lib.hid h1
        have HA2 := Lib.hid ha2
        have HB2 := Lib.hid hb2
        have H2 := Lib.hid h2
        clear ha0 hb0 h0 ea0 eb0 ha1 hb1 h1 ea1 eb1 ha2 hb2 h2 ea2 eb2
        go_enter Tryz.func192, Tryz.ntmps192
        go_wp2_with fail
        refine wp_loop_rounds 4 ?_
        rw [rounds_succ]
        go_wp2_with fail
        refine (acut_is s ⟨#[37, 115]⟩ a0_ b0_ false _ HM.out (by omega) HA0.out HB0.out H0.out).mono ?_
        rintro e w1 ⟨rfl, b1⟩
        have a1 := b1
        go_wp2_with fail
        rw [rounds_succ]
        go_wp2_with fail
        refine (acut_is s ⟨#[37, 122]⟩ a1_ b1_ false _ (HM.out.below a1) (by omega) HA1.out HB1.out H1.out).mono ?_
        rintro e w2 ⟨rfl, b2⟩
        have a2 := a1.trans (b2.mono a1.size)
        go_wp2_with fail
        rw [rounds_succ]
        go_wp2_with fail
        refine (acut_is s ⟨#[47]⟩ a2_ b2_ true _ (HM.out.below a2) (by omega) HA2.out HB2.out H2.out).mono ?_
        rintro e w3 ⟨rfl, b3⟩
        have a3 := a2.trans (b3.mono a2.size)
        go_wp2_with fail
        go_ret3
        exact ⟨HE.out, a3⟩
      | false =>
        have HE := Lib.hid (cutR_of (a := s) (b := ⟨#[]⟩) (show Fm.cutF s.data.toList = (3, s.data.toList, []) by unfold Fm.cutF; rw [if_neg (show ¬ (Lib.cut s.data.toList [37, 115]).2.2 = true by rw [h0]; simp), if_neg (show ¬ (Lib.cut s.data.toList [37, 122]).2.2 = true by rw [h1]; simp), if_neg (show ¬ (Lib.cut s.data.toList [47]).2.2 = true by rw [h2]; simp)]))
        have HA0 := Lib.hid ha0
        have HB0 := Lib.hid hb0
        have H0 := Lib.hid h0
        have HA1 := Lib.hid ha1
        have HB1 := Lib.hid hb1
        have H1 := Lib.hid h1
        have HA2 := Lib.hid ha2
        have HB2 := Lib.hid hb2
        have H2 := Lib.hid h2
        clear ha0 hb0 h0 ea0 eb0 ha1 hb1 h1 ea1 eb1 ha2 hb2 h2 ea2 eb2
        go_enter Tryz.func192, Tryz.ntmps192
        go_wp2_with fail
        refine wp_loop_rounds 4 ?_
        rw [rounds_succ]
        go_wp2_with fail
        refine (acut_is s ⟨#[37, 115]⟩ a0_ b0_ false _ HM.out (by omega) HA0.out HB0.out H0.out).mono ?_
        rintro e w1 ⟨rfl, b1⟩
        have a1 := b1
        go_wp2_with fail
        rw [rounds_succ]
        go_wp2_with fail
        refine (acut_is s ⟨#[37, 122]⟩ a1_ b1_ false _ (HM.out.below a1) (by omega) HA1.out HB1.out H1.out).mono ?_
        rintro e w2 ⟨rfl, b2⟩
        have a2 := a1.trans (b2.mono a1.size)
        go_wp2_with fail
        rw [rounds_succ]
        go_wp2_with fail
        refine (acut_is s ⟨#[47]⟩ a2_ b2_ false _ (HM.out.below a2) (by omega) HA2.out HB2.out H2.out).mono ?_
        rintro e w3 ⟨rfl, b3⟩
        have a3 := a2.trans (b3.mono a2.size)
        go_wp2_with fail
        rw [rounds_succ]
        go_wp2_with fail
        go_ret3
        exact ⟨HE.out, a3⟩
end Go.Proofs.YtkcbmnboccjnnaaGreatDoor
/- Contracts of package abbr: isFormat, Check, Of. -/

namespace Go.Proofs.YtkcbmnboccjnnaaGreatDoor
open Go.RowKit
theorem fcut_is (s : ByteArray) (m : Nat) (a b : ByteArray) (w : World) (hK : Marks w) (hM : Mxa w) (hs : s.size ≤ 1000) (h : Fm.cutF s.data.toList = (m, a.data.toList, b.data.toList)) :
    Calls Tryz.prog 192 #[.string s] w fun e w' => e = .returned (.tuple #[.int .i64 (m : Int), .string a, .string b]) ∧ Below w.heap.size w w' :=
  (fcut_any s w hK hM hs).mono fun _ _ ⟨he, hb⟩ => ⟨by unfold CutR at he; rw [h] at he; exact he, hb⟩
theorem ne_empty {S : ByteArray} (h : S.data.toList ≠ []) : S.toList.isEmpty = false := by
  rw [ByteArray.toList_eq]
  simpa using h
theorem fmt_of {s : ByteArray} {m : Nat} {a b : ByteArray} (h : Fm.cutF s.data.toList = (m, a.data.toList, b.data.toList)) (h1 : 1 ≤ s.size) (h2 : s.size ≤ 32) : Fm.fmt s.data.toList = Fm.fits m a.data.toList b.data.toList := by
  have hz : s.data.toList.length = s.size := by simp
  unfold Fm.fmt
  rw [h, hz]
  simp [h1, h2]
/-- The parts of a format lie within it. -/
theorem cut_small {s : ByteArray} {m : Nat} {a b : ByteArray} (h : Fm.cutF s.data.toList = (m, a.data.toList, b.data.toList)) : a.size ≤ s.size ∧ b.size ≤ s.size := by
  have hz : s.data.toList.length = s.size := by simp
  have ha : a.data.toList.length = a.size := by simp
  have hb : b.data.toList.length = b.size := by simp
  obtain ⟨m', a', b', hc, hw⟩ := Fm.cutF_cases s.data.toList
  rw [h] at hc
  injection hc with e1 e2
  injection e2 with e2 e3
  subst e1 e2 e3
  rcases hw with ⟨_, e⟩ | ⟨_, e⟩ | ⟨_, e⟩ | ⟨_, e, e2⟩
  · have := congrArg List.length e
    simp only [List.length_append, List.length_cons, List.length_nil] at this
    omega
  · have := congrArg List.length e
    simp only [List.length_append, List.length_cons, List.length_nil] at this
    omega
  · have := congrArg List.length e
    simp only [List.length_append, List.length_cons, List.length_nil] at this
    omega
  · have := congrArg List.length e
    rw [e2] at hb
    simp only [List.length_nil] at hb
    omega
/-- isFormat of parts that are no two: any signs. -/
theorem format_m (s a b : ByteArray) (m : Nat) (v : Bool) (w : World) (hK : Hid (Marks w)) (hM : Hid (Mxa w)) (h1 : 1 ≤ s.size) (h2 : s.size ≤ 32) (hc : Hid (Fm.cutF s.data.toList = (m, a.data.toList, b.data.toList))) (hm : (((m : Nat) : Int) == 2) = false) (ha : a.size ≤ 32) (hb : b.size ≤ 32) (hv : Hid ((Fm.sgs a.data.toList && Fm.sgs b.data.toList) = v)) :
    Calls Tryz.prog 162 #[.string s] w fun e w' => e = .returned (.bool v) ∧ Below w.heap.size w w' := by
  go_enter Tryz.func162, Tryz.ntmps162
  go_wp2_with fail
  refine (fcut_is s m a b _ hK.out hM.out (by omega) hc.out).mono ?_
  rintro e w1 ⟨rfl, b1⟩
  go_wp2_with fail
  refine (signs_2 a b v w1.heap.size _ (by omega) (by omega) (by simp) (by go_simp) (by go_simp) hv.out).mono ?_
  rintro e w2 ⟨rfl, b2⟩
  have a2 : Below w.heap.size w w2 := (b1.alloc b1.size _).trans (b2.mono (by have := b1.size; simp; omega))
  go_wp2_with fail
  go_ret
  exact ⟨rfl, a2⟩
theorem format_2 (s a b : ByteArray) (v : Bool) (w : World) (hK : Hid (Marks w)) (hM : Hid (Mxa w)) (h1 : 1 ≤ s.size) (h2 : s.size ≤ 32) (hc : Hid (Fm.cutF s.data.toList = (2, a.data.toList, b.data.toList))) (na : a.toList.isEmpty = false) (nb : b.toList.isEmpty = false) (ha : a.size ≤ 32) (hb : b.size ≤ 32) (hv : Hid ((Fm.sgs a.data.toList && Fm.sgs b.data.toList) = v)) :
    Calls Tryz.prog 162 #[.string s] w fun e w' => e = .returned (.bool v) ∧ Below w.heap.size w w' := by
  go_enter Tryz.func162, Tryz.ntmps162
  go_wp2_with fail
  refine (fcut_is s 2 a b _ hK.out hM.out (by omega) hc.out).mono ?_
  rintro e w1 ⟨rfl, b1⟩
  go_wp2_with fail
  refine (signs_2 a b v w1.heap.size _ (by omega) (by omega) (by simp) (by go_simp) (by go_simp) hv.out).mono ?_
  rintro e w2 ⟨rfl, b2⟩
  have a2 : Below w.heap.size w w2 := (b1.alloc b1.size _).trans (b2.mono (by have := b1.size; simp; omega))
  go_wp2_with fail
  go_ret
  exact ⟨rfl, a2⟩
theorem format_2a (s b : ByteArray) (w : World) (hK : Hid (Marks w)) (hM : Hid (Mxa w)) (h1 : 1 ≤ s.size) (h2 : s.size ≤ 32) (hc : Hid (Fm.cutF s.data.toList = (2, [], b.data.toList))) :
    Calls Tryz.prog 162 #[.string s] w fun e w' => e = .returned (.bool false) ∧ Below w.heap.size w w' := by
  go_enter Tryz.func162, Tryz.ntmps162
  go_wp2_with fail
  refine (fcut_is s 2 ⟨#[]⟩ b _ hK.out hM.out (by omega) hc.out).mono ?_
  rintro e w1 ⟨rfl, b1⟩
  go_wp2_with fail
  go_ret
  exact ⟨rfl, b1⟩
theorem format_2b (s a : ByteArray) (w : World) (hK : Hid (Marks w)) (hM : Hid (Mxa w)) (h1 : 1 ≤ s.size) (h2 : s.size ≤ 32) (hc : Hid (Fm.cutF s.data.toList = (2, a.data.toList, []))) (na : a.toList.isEmpty = false) :
    Calls Tryz.prog 162 #[.string s] w fun e w' => e = .returned (.bool false) ∧ Below w.heap.size w w' := by
  go_enter Tryz.func162, Tryz.ntmps162
  go_wp2_with fail
  refine (fcut_is s 2 a ⟨#[]⟩ _ hK.out hM.out (by omega) hc.out).mono ?_
  rintro e w1 ⟨rfl, b1⟩
  go_wp2_with fail
  go_ret
  exact ⟨rfl, b1⟩
theorem empty_of {a : ByteArray} (h : a.data.toList = []) : a = ⟨#[]⟩ := ByteArray.ext (Array.toList_inj.1 h)
theorem format_any (s : ByteArray) (w : World) (hK : Marks w) (hM : Mxa w) :
    Calls Tryz.prog 162 #[.string s] w fun e w' => e = .returned (.bool (Fm.fmt s.data.toList)) ∧ Below w.heap.size w w' := by
  have hz : s.data.toList.length = s.size := by simp
  by_cases h1 : 1 ≤ s.size
  · by_cases h2 : s.size ≤ 32
    · obtain ⟨m, a0, b0, hc, hw⟩ := Fm.cutF_cases s.data.toList
      obtain ⟨a, rfl⟩ : ∃ a : ByteArray, a.data.toList = a0 := ⟨⟨a0.toArray⟩, by simp⟩
      obtain ⟨b, rfl⟩ : ∃ b : ByteArray, b.data.toList = b0 := ⟨⟨b0.toArray⟩, by simp⟩
      rw [fmt_of hc h1 h2]
      obtain ⟨ha, hb⟩ := cut_small hc
      by_cases h3 : m = 2
      · subst h3
        by_cases h4 : a.data.toList = []
        · rw [show Fm.fits 2 a.data.toList b.data.toList = false by unfold Fm.fits; rw [h4]; simp]
          exact format_2a s b w (Lib.hid hK) (Lib.hid hM) h1 h2 (Lib.hid (by rw [hc, h4]))
        · by_cases h5 : b.data.toList = []
          · rw [show Fm.fits 2 a.data.toList b.data.toList = false by unfold Fm.fits; rw [h5]; simp]
            exact format_2b s a w (Lib.hid hK) (Lib.hid hM) h1 h2 (Lib.hid (by rw [hc, h5])) (ne_empty h4)
          · rw [show Fm.fits 2 a.data.toList b.data.toList = (Fm.sgs a.data.toList && Fm.sgs b.data.toList) by
              unfold Fm.fits
              rw [show a.data.toList.isEmpty = false by simpa using h4, show b.data.toList.isEmpty = false by simpa using h5]
              simp]
            exact format_2 s a b _ w (Lib.hid hK) (Lib.hid hM) h1 h2 (Lib.hid hc) (ne_empty h4) (ne_empty h5) (by omega) (by omega) (Lib.hid rfl)
      · rw [show Fm.fits m a.data.toList b.data.toList = (Fm.sgs a.data.toList && Fm.sgs b.data.toList) by
          unfold Fm.fits
          rw [show (m == 2) = false by simpa using h3]
          simp]
        exact format_m s a b m _ w (Lib.hid hK) (Lib.hid hM) h1 h2 (Lib.hid hc) (by rw [beq_eq_false_iff_ne]; omega) (by omega) (by omega) (Lib.hid rfl)
    · have HE := Lib.hid (show false = Fm.fmt s.data.toList by unfold Fm.fmt; rw [hz]; simp [h2])
      have h2' : 32 < s.size := by omega
      clear hz h2
      go_enter Tryz.func162, Tryz.ntmps162
      go_wp2_with fail
      go_ret
      exact ⟨aret_bool HE.out, Below.refl _ _⟩
  · have HE := Lib.hid (show false = Fm.fmt s.data.toList by unfold Fm.fmt; rw [hz]; simp [h1])
    have h1' : s.size < 1 := by omega
    clear hz h1
    go_enter Tryz.func162, Tryz.ntmps162
    go_wp2_with fail
    go_ret
    exact ⟨aret_bool HE.out, Below.refl _ _⟩
theorem format_is (s : ByteArray) (v : Bool) (w : World) (hK : Marks w) (hM : Mxa w) (h : Fm.fmt s.data.toList = v) :
    Calls Tryz.prog 162 #[.string s] w fun e w' => e = .returned (.bool v) ∧ Below w.heap.size w w' := by
  subst h
  exact format_any s w hK hM
theorem fcheck_yes (s : ByteArray) (w : World) (hK : Marks w) (hM : Mxa w) (h : Fm.fmt s.data.toList = true) : Calls Tryz.prog 135 #[.string s] w fun e w' => e = .returned (.int .i64 0) ∧ Below w.heap.size w w' := by
  have H := Lib.hid (format_is s true w hK hM h)
  clear h hK hM
  go_enter Tryz.func135, Tryz.ntmps135
  go_wp2_with fail
  refine (H.out).mono ?_
  rintro e w1 ⟨rfl, b1⟩
  go_wp2_with fail
  go_ret
  exact ⟨rfl, b1⟩
theorem fcheck_no (s : ByteArray) (w : World) (hK : Marks w) (hM : Mxa w) (h : Fm.fmt s.data.toList = false) : Calls Tryz.prog 135 #[.string s] w fun e w' => e = .returned (.int .i64 2) ∧ Below w.heap.size w w' := by
  have H := Lib.hid (format_is s false w hK hM h)
  clear h hK hM
  go_enter Tryz.func135, Tryz.ntmps135
  go_wp2_with fail
  refine (H.out).mono ?_
  rintro e w1 ⟨rfl, b1⟩
  go_wp2_with fail
  go_ret
  exact ⟨rfl, b1⟩
end Go.Proofs.YtkcbmnboccjnnaaGreatDoor
