/- A page (a text that is written, and why it can't be): the builder's methods at one. -/
import Derived.Test.YtkcbmnboccjnnaaGreatDoorRw
import Derived.Test.YtkcbmnboccjnnaaGreatDoorMe
import Derived.Test.YtkcbmnboccjnnaaGreatDoorPt
import Derived.Test.YtkcbmnboccjnnaaGreatDoorShelf
import Derived.Shelf.Abstract
namespace Go.Proofs.YtkcbmnboccjnnaaGreatDoor
open Go.RowKit
set_option maxRecDepth 100000
/-- A page at block b, one of the call's own: its text has the bytes bs, and its reason is c. -/
structure PgV (w : World) (B b : Nat) (p v : Value) (bs : List Value) (c : Int) : Prop where
  own : B ≤ b
  hp : w.heap[b]? = some (.cells #[p, v, .int .i64 c] 89 (0, 0))
  row : w.ownsRow B 5 1 v bs.length bs
  ne : v.ownBlock ≠ some b
def Pg (w : World) (B b : Nat) (bs : List Value) (c : Int) : Prop := ∃ p v, (p = .pointer none ∨ p = .pointer (some ⟨b, 0, none⟩)) ∧ PgV w B b p v bs c
theorem PgV.cell0 {w : World} {B b : Nat} {p v : Value} {bs : List Value} {c : Int} (h : PgV w B b p v bs c) : w.cell? ⟨b, 0, none⟩ = some p := by rw [Lib.cell_of_heap h.hp]; rfl
theorem PgV.cell1 {w : World} {B b : Nat} {p v : Value} {bs : List Value} {c : Int} (h : PgV w B b p v bs c) : w.cell? ⟨b, 1, none⟩ = some v := by rw [Lib.cell_of_heap h.hp]; rfl
theorem PgV.cell2 {w : World} {B b : Nat} {p v : Value} {bs : List Value} {c : Int} (h : PgV w B b p v bs c) : w.cell? ⟨b, 2, none⟩ = some (.int .i64 c) := by rw [Lib.cell_of_heap h.hp]; rfl
theorem PgV.fr {w : World} {B b : Nat} {p v : Value} {bs : List Value} {c : Int} (h : PgV w B b p v bs c) (j : Nat) : w.frozen? ⟨b, j, none⟩ = false := Lib.frozen_of_heap h.hp j
theorem PgV.shape {w : World} {B b : Nat} {p v : Value} {bs : List Value} {c : Int} (h : PgV w B b p v bs c) : w.shape? b = some (89, 3) := by simp [World.shape?, h.hp]
theorem PgV.lt {w : World} {B b : Nat} {p v : Value} {bs : List Value} {c : Int} (h : PgV w B b p v bs c) : b < w.heap.size := by
  rcases Nat.lt_or_ge b w.heap.size with h' | h'
  · exact h'
  · have := h.hp
    simp [Array.getElem?_eq_none h'] at this
theorem kept_set {w : World} {B b j : Nat} {v x : Value} {n : Nat} {l : List Value} (h : w.ownsRow B 5 1 v n l) (hne : v.ownBlock ≠ some b) : (w.setCell ⟨b, j, none⟩ x).ownsRow B 5 1 v n l :=
  h.kept (row := some b) ⟨rfl, rfl, rfl, by simp [World.setCell], fun k _ hk => Below.heap_setCell _ _ _ _ (fun e => hk (by simp [e]))⟩ (Or.inr hne)
theorem PgV.set0 {w : World} {B b : Nat} {p v : Value} {bs : List Value} {c : Int} (h : PgV w B b p v bs c) (q : Value) : PgV (w.setCell ⟨b, 0, none⟩ q) B b q v bs c :=
  ⟨h.own, by simp [World.setCell, Array.getElem?_modify, h.hp], kept_set h.row h.ne, h.ne⟩
theorem PgV.set2 {w : World} {B b : Nat} {p v : Value} {bs : List Value} {c : Int} (h : PgV w B b p v bs c) (d : Int) : PgV (w.setCell ⟨b, 2, none⟩ (.int .i64 d)) B b p v bs d :=
  ⟨h.own, by simp [World.setCell, Array.getElem?_modify, h.hp], kept_set h.row h.ne, h.ne⟩
theorem PgV.put {w : World} {B b : Nat} {p v v' : Value} {bs' : List Value} {c : Int} (hB : B ≤ b) (hb : w.heap[b]? = some (.cells #[p, v, .int .i64 c] 89 (0, 0))) (hown : w.ownsRow B 5 1 v' bs'.length bs') : PgV (w.setCell ⟨b, 1, none⟩ v') B b p v' bs' c := by
  have hne := Lib.ownBlock_ne hown hb (by decide)
  exact ⟨hB, by simp [World.setCell, Array.getElem?_modify, hb], kept_set hown hne, hne⟩
theorem PgV.drew {w : World} {B b : Nat} {p v : Value} {bs : List Value} {c : Int} (h : PgV w B b p v bs c) : PgV w.drew B b p v bs c := ⟨h.own, h.hp, h.row, h.ne⟩
theorem pg_under : Tryz.prog.underlying 84 = some (.pointer 87) := by kernel_rfl
theorem pg_size : (Tryz.prog.info? 87).map (·.size) = some 2 := by kernel_rfl
theorem pg_lies : liesAt Tryz.prog Tryz.prog.depth 89 (3 / Tryz.prog.cellsOf 89) 0 87 1 = true := by kernel_rfl
theorem pg_unsafe : Tryz.prog.underlying 174 = some .unsafePointer := by kernel_rfl
/-- Rows of texts stay as they are. -/
def KeepS (w w' : World) : Prop := ∀ (g : Nat) (cs : Array Value) (fr : Nat × Nat), w.heap[g]? = some (Obj.cells cs 9 fr) → w'.heap[g]? = some (Obj.cells cs 9 fr)
theorem KeepS.refl (w : World) : KeepS w w := fun _ _ _ h => h
theorem KeepS.trans {a b c : World} (h : KeepS a b) (k : KeepS b c) : KeepS a c := fun g cs fr x => k g cs fr (h g cs fr x)
theorem KeepS.set {a w : World} {b j : Nat} {cs : Array Value} (h : KeepS a w) (hb : w.heap[b]? = some (.cells cs 89 (0, 0))) (x : Value) : KeepS a (w.setCell ⟨b, j, none⟩ x) := fun g cs' fr k => by
  have k2 := h g cs' fr k
  rw [Below.heap_setCell _ _ _ _ (fun e => by
    subst e
    rw [hb] at k2
    injection k2 with k2
    injection k2 with _ k2 _
    exact absurd k2 (by decide))]
  exact k2
theorem KeepS.alloc {a w : World} (h : KeepS a w) (o : Obj) : KeepS a (w.alloc o) := fun g cs fr k => by
  have k2 := h g cs fr k
  have hlt : g < w.heap.size := by
    rcases Nat.lt_or_ge g w.heap.size with h' | h'
    · exact h'
    · simp [Array.getElem?_eq_none h'] at k2
  rw [Lib.alloc_old w o g hlt]
  exact k2
theorem KeepS.grown {a w w' : World} {B : Nat} {v : Value} {n : Nat} {xs : List Value} (h : KeepS a w) (hown : w.ownsRow B 5 1 v n xs) (hg : w.grownBy w' v.ownBlock) : KeepS a w' := fun g cs fr k => by
  have k2 := h g cs fr k
  have hlt : g < w.heap.size := by
    rcases Nat.lt_or_ge g w.heap.size with h' | h'
    · exact h'
    · simp [Array.getElem?_eq_none h'] at k2
  have hne := Lib.ownBlock_ne hown k2 (by decide)
  rw [hg.block g hlt (fun e => hne e.symm)]
  exact k2
theorem pgck_used (b : Nat) (w : World) (h0 : w.cell? ⟨b, 0, none⟩ = some (.pointer (some ⟨b, 0, none⟩))) :
    Calls Tryz.prog 105 #[.pointer (some ⟨b, 0, none⟩)] w fun e w' => e = .returned (.tuple #[]) ∧ w' = w := by
  obtain ⟨j, hj, _⟩ := Option.map_eq_some_iff.1 pg_size
  go_enter Tryz.func105, Tryz.ntmps105
  go_wp2
  rw [Lib.run_neq_ptr_same w _ pg_under hj]
  go_wp2
  go_end0
  exact ⟨rfl, rfl⟩
theorem pgck_fresh (b : Nat) (w : World) (h0 : w.cell? ⟨b, 0, none⟩ = some (.pointer none)) (hsh : w.shape? b = some (89, 3)) (hfz : w.frozen? ⟨b, 0, none⟩ = false) :
    Calls Tryz.prog 105 #[.pointer (some ⟨b, 0, none⟩)] w fun e w' => e = .returned (.tuple #[]) ∧ w' = w.setCell ⟨b, 0, none⟩ (.pointer (some ⟨b, 0, none⟩)) := by
  obtain ⟨j, hj, hjs⟩ := Option.map_eq_some_iff.1 pg_size
  go_enter Tryz.func105, Tryz.ntmps105
  go_wp2
  rw [Lib.run_to_unsafe w ⟨b, 0, none⟩ pg_under pg_unsafe hj (by rw [hjs]; decide) hsh (Nat.zero_lt_succ 2)]
  simp only [Result.andThen]
  rw [Oper.upon_value]
  go_wp2
  rw [run_callFunc_extern Tryz.func150 (by kernel_rfl) (by kernel_rfl) (by kernel_rfl) (e := Extern.AbiNoEscape.same) (by kernel_rfl)]
  rw [Lib.run_noEscape]
  simp only [Result.andThen]
  rw [Oper.upon_value]
  go_wp2
  rw [Lib.run_from_unsafe w ⟨b, 0, none⟩ pg_unsafe pg_under hj hsh pg_lies]
  simp only [Result.andThen]
  rw [Oper.upon_value]
  go_wp2
  go_end0
  exact ⟨rfl, rfl⟩
theorem pgck_any {B b : Nat} {bs : List Value} {c : Int} {w : World} (h : Pg w B b bs c) :
    Calls Tryz.prog 105 #[.pointer (some ⟨b, 0, none⟩)] w fun e w' => e = .returned (.tuple #[]) ∧ (∃ v, PgV w' B b (.pointer (some ⟨b, 0, none⟩)) v bs c) ∧ Below B w w' ∧ KeepS w w' := by
  obtain ⟨p, v, rfl | rfl, h⟩ := h
  · refine (pgck_fresh b w h.cell0 h.shape (h.fr 0)).mono ?_
    rintro e w' ⟨rfl, rfl⟩
    exact ⟨rfl, ⟨v, h.set0 _⟩, (Below.refl B w).setCell (p := ⟨b, 0, none⟩) h.own _, (KeepS.refl w).set h.hp _⟩
  · refine (pgck_used b w h.cell0).mono ?_
    rintro e w' ⟨rfl, rfl⟩
    exact ⟨rfl, ⟨v, h⟩, Below.refl B _, KeepS.refl _⟩
theorem pglen_any {B b : Nat} {bs : List Value} {c : Int} (w : World) (h : Pg w B b bs c) :
    Calls Tryz.prog 63 #[.pointer (some ⟨b, 0, none⟩)] w fun e w' => e = .returned (.int .i64 bs.length) ∧ w' = w := by
  obtain ⟨p, v, _, h⟩ := h
  obtain ⟨ao, cap, rfl⟩ : ∃ ao cap, v = .slice ao bs.length cap := by
    rcases h.row.2 with ⟨hv, h0⟩ | ⟨g, cap, cur, hv, _⟩
    · exact ⟨none, 0, by rw [hv, h0]⟩
    · exact ⟨_, _, hv⟩
  have c1 := h.cell1
  go_enter Tryz.func63, Tryz.ntmps63
  go_wp2
  go_ret
  exact ⟨rfl, rfl⟩
theorem byte_row : (Tryz.prog.info? 5).map (fun i => (i.zero, i.size, i.bytes)) = some (some (.int .u8 0), 1, 1) := by kernel_rfl
set_option maxHeartbeats 2000000 in
theorem pgbyte_any {B b : Nat} {bs : List Value} {k : Int} (c : Int) (w : World) (h : Pg w B b bs k) (hlen : bs.length + 1 ≤ 140737488355328) (hBw : B ≤ w.heap.size) :
    Calls Tryz.prog 62 #[.pointer (some ⟨b, 0, none⟩), .int .u8 c] w fun e w' => e = .returned .nilIface ∧ Pg w' B b (bs ++ [.int .u8 c]) k ∧ Below B w w' ∧ KeepS w w' := by
  obtain ⟨i0, hi, hz0, hz1, hz2⟩ := info_parts byte_row
  go_enter Tryz.func62, Tryz.ntmps62
  go_wp2_with (go_at_call 105; refine (pgck_any h).mono ?_)
  rintro e w1 ⟨rfl, ⟨v, h1⟩, hb1, hk1⟩
  have c0 := h1.cell0
  have c1 := h1.cell1
  have hown := h1.row
  go_wp2_with (at_builtin; refine wpList_append_own _ rfl _ _ 85 rfl B 5 i0 (.int .u8 0) 1 1 Tryz.underlying85 hi hz0 hz1 hz2 rfl (by decide) _ _ _ rfl (hown.alloc _) ⟨w1.heap.size, 0, none⟩ 1 1 [.int .u8 c] rfl rfl ?c1 ?c2 ?c3 ?c4 ?c5 ?_)
  case c1 =>
    intro j u hj
    match j, hj with
    | 0, hj => simp at hj; subst hj; simp [Addr.add]
  case c2 => intro u hu; simp at hu; subst hu; rfl
  case c3 => unfold maxLen; omega
  case c4 => omega
  case c5 => have := hb1.size; simp; omega
  intro v' w2 hown' hgrow _
  have hlt := h1.lt
  have hb2 : w2.heap[b]? = some (.cells #[.pointer (some ⟨b, 0, none⟩), v, .int .i64 k] 89 (0, 0)) := by
    rw [hgrow.block b (by simp; omega) (fun e => h1.ne e.symm), Lib.alloc_old w1 _ b hlt]
    exact h1.hp
  have d0 : w2.cell? ⟨b, 0, none⟩ = some (.pointer (some ⟨b, 0, none⟩)) := by rw [Lib.cell_of_heap hb2]; rfl
  have d1 : w2.cell? ⟨b, 1, none⟩ = some v := by rw [Lib.cell_of_heap hb2]; rfl
  have f1 : w2.frozen? ⟨b, 1, none⟩ = false := Lib.frozen_of_heap hb2 1
  obtain ⟨g, cap, rfl⟩ : ∃ g cap, v' = .slice (some ⟨g, 0, none⟩) (bs.length + 1) cap := by
    rcases hown'.2 with ⟨_, h0⟩ | ⟨g, cap, cur, hv, _⟩
    · omega
    · exact ⟨g, cap, hv⟩
  go_wp2
  go_ret
  refine ⟨rfl, ⟨_, _, .inr rfl, PgV.put h1.own hb2 (bs' := bs ++ [.int .u8 c]) (by simpa using hown')⟩, ?_, (((hk1.alloc _).grown (hown.alloc _) hgrow).set hb2 _)⟩
  exact ((hb1.alloc (by have := hb1.size; omega) _).grown hgrow (by have := hb1.size; simp; omega) (fun k hk => (hown.lt k hk).1)).setCell (p := ⟨b, 1, none⟩) h1.own _
set_option maxHeartbeats 2000000 in
theorem pgstr_any {B b : Nat} {bs : List Value} {k : Int} (s : ByteArray) (w : World) (h : Pg w B b bs k) (hlen : bs.length + s.size ≤ 140737488355328) (hBw : B ≤ w.heap.size) :
    Calls Tryz.prog 61 #[.pointer (some ⟨b, 0, none⟩), .string s] w fun e w' => e = .returned (.tuple #[.int .i64 s.size, .nilIface]) ∧ Pg w' B b (bs ++ Lib.strCells s) k ∧ Below B w w' ∧ KeepS w w' := by
  obtain ⟨i0, hi, hz0, hz1, hz2⟩ := info_parts byte_row
  go_enter Tryz.func61, Tryz.ntmps61
  go_wp2_with (go_at_call 105; refine (pgck_any h).mono ?_)
  rintro e w1 ⟨rfl, ⟨v, h1⟩, hb1, hk1⟩
  have c0 := h1.cell0
  have c1 := h1.cell1
  have hown := h1.row
  go_wp2_with (at_builtin; refine Lib.wpList_append_own_string _ rfl _ _ 85 9 rfl B 5 i0 Tryz.underlying85 Tryz.underlying9 hi hz0 hz1 hz2 _ _ _ rfl hown s rfl ?c3 ?c4 ?c5 ?_)
  case c3 => unfold maxLen; omega
  case c4 => omega
  case c5 => have := hb1.size; omega
  intro v' w2 hown' hgrow _
  have hlt := h1.lt
  have hb2 : w2.heap[b]? = some (.cells #[.pointer (some ⟨b, 0, none⟩), v, .int .i64 k] 89 (0, 0)) := by
    rw [hgrow.block b hlt (fun e => h1.ne e.symm)]
    exact h1.hp
  have d0 : w2.cell? ⟨b, 0, none⟩ = some (.pointer (some ⟨b, 0, none⟩)) := by rw [Lib.cell_of_heap hb2]; rfl
  have d1 : w2.cell? ⟨b, 1, none⟩ = some v := by rw [Lib.cell_of_heap hb2]; rfl
  have f1 : w2.frozen? ⟨b, 1, none⟩ = false := Lib.frozen_of_heap hb2 1
  obtain ⟨ao, n', cap, rfl⟩ : ∃ ao n' cap, v' = .slice ao n' cap := by
    rcases hown'.2 with ⟨hv, _⟩ | ⟨g, cap, cur, hv, _⟩
    · exact ⟨_, _, _, hv⟩
    · exact ⟨_, _, _, hv⟩
  go_wp2
  go_ret2
  refine ⟨rfl, ⟨_, _, .inr rfl, PgV.put h1.own hb2 (bs' := bs ++ Lib.strCells s) (by simpa [Lib.strCells_length] using hown')⟩, ?_, ((hk1.grown hown hgrow).set hb2 _)⟩
  exact (hb1.grown hgrow (by have := hb1.size; omega) (fun k hk => (hown.lt k hk).1)).setCell (p := ⟨b, 1, none⟩) h1.own _
theorem pgS_sd (W : World) (g n cap : Nat) (h : cap ≠ 0) : (Builtin.unsafeSliceData_ #[85] 119 #[.slice (some ⟨g, 0, none⟩) n cap]).run Tryz.prog W = .ok (.pointer (some ⟨g, 0, none⟩)) W := Lib.run_unsafeSliceData_row _ _ _ _ _ _ h
theorem pgS_none (W : World) (q : Option Addr) : (Builtin.unsafeString_ #[119, 3] 9 #[.pointer q, .int .i64 0]).run Tryz.prog W = .ok (.string .empty) W := Lib.run_unsafeString_none W _ _ _ q
theorem byte_cells : Tryz.prog.cellsOf 5 = 1 := by kernel_rfl
theorem pgB_under : Tryz.prog.underlying 119 = some (.pointer 5) := by kernel_rfl
set_option maxHeartbeats 2000000 in
theorem pgstring_full {B b : Nat} {k : Int} (l : List UInt8) (w : World) (h : Pg w B b (Lib.byteCells l) k) (h0 : l ≠ []) :
    Calls Tryz.prog 37 #[.pointer (some ⟨b, 0, none⟩)] w fun e w' => e = .returned (.string ⟨l.toArray⟩) ∧ Below B w w' := by
  obtain ⟨p, v, _, h⟩ := h
  have hl0 : l.length ≠ 0 := by simpa using h0
  have hown := h.row
  rw [Lib.byteCells_length] at hown
  obtain ⟨g, cap, cur, rfl, hbg, hg, hnc, hcm, hcs, htake⟩ : ∃ g cap cur, v = .slice (some ⟨g, 0, none⟩) l.length cap ∧ B ≤ g ∧ w.heap[g]? = some (.cells cur 5 (0, 0)) ∧ l.length ≤ cap ∧ cap ≤ maxLen ∧ cur.size = cap * 1 ∧ cur.toList.take (l.length * 1) = Lib.byteCells l := by
    rcases hown.2 with ⟨_, hz⟩ | ⟨g, cap, cur, hv, r⟩
    · exact absurd hz hl0
    · exact ⟨g, cap, cur, hv, r⟩
  have c1 : w.drew.cell? ⟨b, 1, none⟩ = some (.slice (some ⟨g, 0, none⟩) l.length cap) := h.drew.cell1
  have hSD := pgS_sd w.drew g l.length cap (by omega)
  have hUS : (Builtin.unsafeString_ #[119, 3] 9 #[.pointer (some ⟨g, 0, none⟩), .int .i64 l.length]).run Tryz.prog w.drew = .ok (.string ⟨l.toArray⟩) (w.drew.freeze ⟨g, 0, none⟩ l.length) := by
    refine Lib.run_unsafeString_row w.drew 119 3 9 5 pgB_under byte_cells g cur.size (by have hg' : w.drew.heap[g]? = some (.cells cur 5 (0, 0)) := hg; simp [World.shape?, hg']) l h0 (by omega) (by unfold maxLen at hcm; omega) ?_
    intro j x hx
    have := hown.cells (g := g) rfl j (.int .u8 x.toNat) (by simp [Lib.byteCells, hx])
    exact this
  go_enter Tryz.func37, Tryz.ntmps37
  go_wp2
  go_region
  all_goals (go_wp2; go_ret; exact ⟨rfl, Lib.below_freeze (Below.drew (Below.refl B w)) (p := ⟨g, 0, none⟩) hbg _⟩)
set_option maxHeartbeats 2000000 in
theorem pgstring_nil {B b : Nat} {k : Int} (p : Value) (w : World) (h : PgV w B b p (.slice none 0 0) [] k) :
    Calls Tryz.prog 37 #[.pointer (some ⟨b, 0, none⟩)] w fun e w' => e = .returned (.string ⟨#[]⟩) ∧ Below B w w' := by
  have hUS := pgS_none
  have c1 : w.drew.cell? ⟨b, 1, none⟩ = some (.slice none 0 0) := h.drew.cell1
  have hSD : (Builtin.unsafeSliceData_ #[85] 119 #[.slice none 0 0]).run Tryz.prog w.drew = .ok (.pointer none) w.drew := rfl
  go_enter Tryz.func37, Tryz.ntmps37
  go_wp2
  go_region
  all_goals (go_wp2; go_ret; exact ⟨rfl, Below.drew (Below.refl B w)⟩)
set_option maxHeartbeats 2000000 in
theorem pgstring_noroom {B b : Nat} {k : Int} (g : Nat) (p : Value) (cur : Array Value) (w : World) (hBw : B ≤ w.heap.size) (h : PgV w B b p (.slice (some ⟨g, 0, none⟩) 0 0) [] k) (hg : w.heap[g]? = some (.cells cur 5 (0, 0))) :
    Calls Tryz.prog 37 #[.pointer (some ⟨b, 0, none⟩)] w fun e w' => e = .returned (.string ⟨#[]⟩) ∧ Below B w w' := by
  have hUS := pgS_none
  have hlt := h.lt
  have c1 : w.drew.cell? ⟨b, 1, none⟩ = some (.slice (some ⟨g, 0, none⟩) 0 0) := h.drew.cell1
  have hSD : (Builtin.unsafeSliceData_ #[85] 119 #[.slice (some ⟨g, 0, none⟩) 0 0]).run Tryz.prog w.drew = .ok (.pointer (some ⟨w.drew.heap.size, 0, none⟩)) (w.drew.alloc (.view ⟨g, 0, none⟩ 5)) :=
    Lib.run_unsafeSliceData_zero w.drew _ _ 5 pgB_under ⟨g, 0, none⟩ 0 (5, cur.size) (by have hg' : w.drew.heap[g]? = some (.cells cur 5 (0, 0)) := hg; simp [World.shape?, hg'])
  have c2 : (w.drew.alloc (.view ⟨g, 0, none⟩ 5)).cell? ⟨b, 1, none⟩ = some (.slice (some ⟨g, 0, none⟩) 0 0) := by
    have : (w.drew.alloc (.view ⟨g, 0, none⟩ 5)).heap[b]? = _ := (Lib.alloc_old w.drew _ b hlt).trans h.hp
    rw [Lib.cell_of_heap this]; rfl
  have c3 : (w.alloc (.view ⟨g, 0, none⟩ 5)).drew.cell? ⟨b, 1, none⟩ = some (.slice (some ⟨g, 0, none⟩) 0 0) := c2
  have c0 : w.cell? ⟨b, 1, none⟩ = some (.slice (some ⟨g, 0, none⟩) 0 0) := c1
  go_enter Tryz.func37, Tryz.ntmps37
  go_wp2
  go_region
  all_goals (go_wp2; go_ret; exact ⟨rfl, (Below.drew (Below.refl B w)).alloc hBw _⟩)
set_option maxHeartbeats 2000000 in
theorem pgstring_room {B b : Nat} {k : Int} (g cap : Nat) (p : Value) (w : World) (hc0 : cap ≠ 0) (h : PgV w B b p (.slice (some ⟨g, 0, none⟩) 0 cap) [] k) :
    Calls Tryz.prog 37 #[.pointer (some ⟨b, 0, none⟩)] w fun e w' => e = .returned (.string ⟨#[]⟩) ∧ Below B w w' := by
  have hUS := pgS_none
  have c1 : w.drew.cell? ⟨b, 1, none⟩ = some (.slice (some ⟨g, 0, none⟩) 0 cap) := h.drew.cell1
  have hSD := pgS_sd w.drew g 0 cap hc0
  clear hc0
  go_enter Tryz.func37, Tryz.ntmps37
  go_wp2
  go_region
  all_goals (go_wp2; go_ret; exact ⟨rfl, Below.drew (Below.refl B w)⟩)
theorem pgstring_any {B b : Nat} {k : Int} (l : List UInt8) (w : World) (h : Pg w B b (Lib.byteCells l) k) (hBw : B ≤ w.heap.size) :
    Calls Tryz.prog 37 #[.pointer (some ⟨b, 0, none⟩)] w fun e w' => e = .returned (.string ⟨l.toArray⟩) ∧ Below B w w' := by
  cases l with
  | cons x r => exact pgstring_full (x :: r) w h (by simp)
  | nil =>
    obtain ⟨p, v, _, h⟩ := h
    rcases h.row.2 with ⟨rfl, _⟩ | ⟨g, cap, cur, rfl, hbg, hg, _, _, _, _⟩
    · exact pgstring_nil p w h
    · by_cases hc0 : cap = 0
      · subst hc0
        exact pgstring_noroom g p cur w hBw h hg
      · exact pgstring_room g cap p w hc0 h
end Go.Proofs.YtkcbmnboccjnnaaGreatDoor
